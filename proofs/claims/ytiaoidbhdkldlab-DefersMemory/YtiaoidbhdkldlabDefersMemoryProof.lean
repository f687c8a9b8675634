/-
  For all lists of calls and each call that come in, Push, Pop and Order change nothing that is handed in, spare room too, and answer memory of their own: the law's function returns true.
-/
import Derived.Test.YtiaoidbhdkldlabDmem5
import Derived.Test.YtiaoidbhdkldlabCpop
namespace Go.Proofs.Ytiaoidbhdkldlab.defersMemory
open Go.ChangeShapes Go.WideShapes Go.ChangeAt Go.RowKit
open Go.WideMaps Go.WideElems
open Go.ChangeMaps (open_string shut_string)
set_option linter.unusedVariables false
set_option linter.unusedSimpArgs false
set_option maxRecDepth 100000

theorem own : ownKnob Try.prog.godebug = none := by kernel_rfl

theorem room_lies {u : World} {g : Nat} {l : List Int} (h : Room u g l) (hz : l.length ≤ 17592186043904) : ILies u (.slice (some ⟨g, 0, none⟩) l.length (l.length + 2)) l := h.lies hz
/-- What stands in the block of marked calls is the calls. -/
theorem ma_src {u : World} {A : Nat} {ks : List Ce} {cs : List Cc} (hm : MA A ks u) (hk : ks.length = cs.length + 1) (hr : ∀ j c, cs[j]? = some c → RoomAt u c j ks) (hc : ∀ c ∈ cs, c.args.length ≤ 17592186043904) (hz : cs.length ≤ 3518437208800) : CSrc u (.slice (some ⟨A, 0, none⟩) cs.length (cs.length + 1)) (ks.take cs.length) cs := by
  have hl : (ks.take cs.length).length = cs.length := by simp; omega
  have hx : (ks.take cs.length).map (·.x) = cs := by
    apply List.ext_getElem?
    intro j
    rw [List.getElem?_map]
    by_cases hj : j < cs.length
    · obtain ⟨c, hcj⟩ : ∃ c, cs[j]? = some c := ⟨_, List.getElem?_eq_getElem hj⟩
      obtain ⟨g, h1, _⟩ := hr j c hcj
      rw [List.getElem?_take_of_lt hj, h1, hcj]; rfl
    · rw [List.getElem?_eq_none (by omega), List.getElem?_eq_none (by omega)]; rfl
  refine ⟨.inr ⟨⟨A, 0, none⟩, cs.length + 1, by rw [hl], by rw [hl]; omega, by unfold maxLen; omega, fun _ => rfl, fun k e he j v hv => ?_⟩, fun e he => ?_, hx⟩
  · have hkl := (List.getElem?_eq_some_iff.1 he).1
    rw [List.getElem?_take_of_lt (by omega)] at he
    have hj := (List.getElem?_eq_some_iff.1 hv).1
    have hj3 : j < 3 := by simpa [Ce.cells] using hj
    rw [add_plain, Nat.zero_add]
    have := ccells_get ks k j e hj3 he
    have hb : u.heap[A]? = some (.cells (ccells ks).toArray 25 (0, 0)) := hm
    simp only [World.cell?, hb]
    rw [← hv, ← this]
    simp
  · obtain ⟨j, hj⟩ := List.getElem?_of_mem he
    have hjl := (List.getElem?_eq_some_iff.1 hj).1
    obtain ⟨c, hcj⟩ : ∃ c, cs[j]? = some c := ⟨_, List.getElem?_eq_getElem (by omega)⟩
    obtain ⟨g, h1, h2⟩ := hr j c hcj
    rw [List.getElem?_take_of_lt (by omega), h1] at hj
    cases hj
    exact room_lies h2 (hc c (List.mem_of_getElem? hcj))
/-- What lies at T or above is not touched. -/
theorem row_hi {B T B' : Nat} {u u' : World} {e s n : Nat} {v : Value} {xs : List Value} (h : u.ownsRow B' e s v n xs) (hT : T ≤ B') (hs : Sc B T u u') : u'.ownsRow B' e s v n xs :=
  row_at h fun g cs z hg hv => hs.hi g (Nat.le_trans hT (h.lt g hv).1) (h.lt g hv).2
theorem crow_hi {B T B' : Nat} {u u' : World} {v : Value} {ms : List Ce} {cs : List Cc} (h : CRow B' u v ms cs) (hT : T ≤ B') (hs : Sc B T u u') : CRow B' u' v ms cs :=
  ⟨row_hi h.row hT hs, fun e he => row_hi (h.lies e he) hT hs, h.xs⟩
theorem cown_hi {B T B' T' : Nat} {u u' : World} {v : Value} {ms : List Ce} (h : COwn B' T' u v ms) (hT : T ≤ B') (hs : Sc B T u u') : COwn B' T' u' v ms :=
  ⟨row_hi h.row hT hs, h.low, fun e he => by obtain ⟨xs, h1, h2⟩ := h.lies e he; exact ⟨xs, row_hi h1 hT hs, h2⟩⟩
/-- Numbers beside the calls are written over. -/
theorem cown_beside {B T : Nat} {u u' : World} {v L : Value} {ms : List Ce} {l : List Int} (h : COwn B T u v ms) (hs : Sc B T u u') (hL : IOwn B u L l) (ho : Oth L u u') : COwn B T u' v ms :=
  ⟨row_at h.row fun g cs z hg hv => ho g (fun e => by
    obtain ⟨c2, z2, h2⟩ := row_typed hL g e.symm
    rw [hg] at h2
    simp at h2) (Array.getElem?_eq_some_iff.1 hg).1, h.low, fun e he => (h.lies e he).sc hs⟩
theorem own_pop_any (v : Value) (es : List Ce) (cs : List Cc) (w : World) (hv : CSrc w v es cs) (hc : COk cs) :
    Calls Try.prog 11 #[v] w fun e w' => ∃ v' ms cs' c L' ok, e = .returned (.tuple #[v', cval c L', .bool ok]) ∧ CRow w.heap.size w' v' ms cs' ∧ (∀ d ∈ cs', d.args.length ≤ 17592186043904) ∧ cs'.length ≤ 3518437208800 ∧ c.args.length ≤ 17592186043904 ∧ IOwn w.heap.size w' L' c.args ∧ Below w.heap.size w w' := by
  have hb : ∀ d ∈ cs, d.args.length ≤ 17592186043904 := fun d h => by have := (hc.each d h).sz; omega
  by_cases h0 : cs = []
  · subst h0
    have he : es = [] := List.eq_nil_of_length_eq_zero hv.len
    subst he
    refine (own_pop_none w v hv).mono ?_
    rintro e w' ⟨rfl, hbel⟩
    exact ⟨_, [], [], ⟨0, 0, []⟩, .slice none 0 0, false, rfl, CRow.nil _ _, (fun d h => by cases h), by simp, by simp, IOwn.nil _ _, hbel⟩
  · obtain ⟨m, hm⟩ : ∃ m, cs.length = m + 1 := ⟨cs.length - 1, by have : cs.length ≠ 0 := fun h => h0 (List.eq_nil_of_length_eq_zero h); omega⟩
    refine (own_pop v es cs m w hv hc (by rw [hv.len, hm]) (by omega)).mono ?_
    rintro e w' ⟨v', ms, L', rfl, q, i, hbel⟩
    exact ⟨v', ms, _, _, L', true, rfl, q, (fun d h => hb d (List.mem_of_mem_take h)), by have := hc.size; simp; omega, hb _ (List.getElem_mem (by omega)), i, hbel⟩
set_option maxHeartbeats 2000000 in
theorem walk (v0 : Value) (es0 : List Ce) (cs0 : List Cc) (x1 : Cc) (L1 : Value) (w : World) (hv0 : CSrc w v0 es0 cs0) (hc0 : ∀ c ∈ cs0, CIn c) (hz0 : cs0.length ≤ 3518437208780) (hx1 : CIn x1) (hm1 : ILies w L1 x1.args) :
    Calls Try.prog 3 #[v0, cval x1 L1] w fun e w' => e = .returned (.bool true) ∧ Below w.heap.size w w' := by
  have hc : COk cs0 := ⟨hc0, by omega⟩
  have hca : ∀ c ∈ cs0, c.args.length ≤ 17592186043904 := fun c h => by have := (hc0 c h).sz; omega
  have hxa : x1.args.length ≤ 17592186043904 := by have := hx1.sz; omega
  have HV : Hid (∀ u, Below w.heap.size w u → CSrc u v0 es0 cs0) := fun u h => hv0.below h
  have HM : Hid (∀ u, Below w.heap.size w u → ILies u L1 x1.args) := fun u h => hm1.below h (Nat.le_refl _)
  have HLE : Hid (es0.length = cs0.length) := hv0.len
  obtain ⟨lo, lc, rfl⟩ := hm1.shape
  obtain ⟨vo, vc, hvs⟩ := hv0.row.shape
  rw [hv0.len] at hvs
  subst hvs
  clear hv0 hm1
  unfold cval
  go_enter Try.func3, Try.ntmps3
  go_wp2_with fail
  refine (own_roomyCalls _ es0 cs0 _ (HV.out _ ((Below.refl _ _).alloc (Nat.le_refl _) _)) hc).mono ?_
  rintro e u1 ⟨ks, rfl, hma, hkl, hlast, hrm, b1⟩
  have hbx := box_stays b1
  have HBX : Hid _ := hbx
  obtain ⟨⟨c0, c1, c2⟩, f0, f1, f2⟩ := box3 hbx
  have hwu : w.heap.size < u1.heap.size := (Array.getElem?_eq_some_iff.1 hbx).1
  have HB1 : Hid (Below w.heap.size w u1) := below_up b1
  have HMA : Hid (MA (w.heap.size + 1) ks u1) := by
    have : (w.alloc (.cells #[.int .i64 x1.site, .int .i64 x1.fn, .slice lo x1.args.length lc] 25)).heap.size = w.heap.size + 1 := by simp
    rw [this] at hma
    exact hma
  have HRM : Hid _ := hrm
  clear b1 hbx hma hrm
  go_wp2_with fail
  refine (own_roomy x1.args _ _ (HM.out _ (HB1.out.alloc HB1.out.size _)) hxa).mono ?_
  rintro e u2 ⟨rfl, hrd, b2⟩
  have hgd : (u1.alloc (.cells #[.int .i64 x1.site, .int .i64 x1.fn, .slice lo x1.args.length lc] 25)).heap.size = u1.heap.size + 1 := by simp
  rw [hgd] at hrd ⊢
  have hbd := box_stays b2
  obtain ⟨⟨d0, d1, d2⟩, g0, g1, g2⟩ := box3 hbd
  have b13 : Below u1.heap.size u1 (u2.setCell ⟨u1.heap.size, 2, none⟩ (.slice (some ⟨u1.heap.size + 1, 0, none⟩) x1.args.length (x1.args.length + 2))) := (below_up b2).setCell (Nat.le_refl _) _
  have HF : Hid (MA (w.heap.size + 1) ks (u2.setCell ⟨u1.heap.size, 2, none⟩ (.slice (some ⟨u1.heap.size + 1, 0, none⟩) x1.args.length (x1.args.length + 2))) ∧ (∀ j c, cs0[j]? = some c → RoomAt (u2.setCell ⟨u1.heap.size, 2, none⟩ (.slice (some ⟨u1.heap.size + 1, 0, none⟩) x1.args.length (x1.args.length + 2))) c j ks) ∧ Room (u2.setCell ⟨u1.heap.size, 2, none⟩ (.slice (some ⟨u1.heap.size + 1, 0, none⟩) x1.args.length (x1.args.length + 2))) (u1.heap.size + 1) x1.args ∧ (u2.setCell ⟨u1.heap.size, 2, none⟩ (.slice (some ⟨u1.heap.size + 1, 0, none⟩) x1.args.length (x1.args.length + 2))).heap[w.heap.size]? = some (.cells #[.int .i64 x1.site, .int .i64 x1.fn, .slice lo x1.args.length lc] 25 (0, 0)) ∧ (u2.setCell ⟨u1.heap.size, 2, none⟩ (.slice (some ⟨u1.heap.size + 1, 0, none⟩) x1.args.length (x1.args.length + 2))).heap[u1.heap.size]? = some (.cells #[.int .i64 x1.site, .int .i64 x1.fn, .slice (some ⟨u1.heap.size + 1, 0, none⟩) x1.args.length (x1.args.length + 2)] 25 (0, 0)) ∧ Below w.heap.size w (u2.setCell ⟨u1.heap.size, 2, none⟩ (.slice (some ⟨u1.heap.size + 1, 0, none⟩) x1.args.length (x1.args.length + 2)))) := by
    refine ⟨HMA.out.below b13, fun j c h => (HRM.out j c h).keep rfl (room_below b13), ?_, ?_, ?_, HB1.out.trans (b13.mono HB1.out.size)⟩
    · show (u2.setCell _ _).heap[u1.heap.size + 1]? = _
      rw [heap_setCell_other _ _ _ _ (by simp)]; exact hrd
    · rw [b13.block _ hwu]; exact HBX.out
    · have := heap_setCell_same u2 u1.heap.size 2 _ 25 (.slice (some ⟨u1.heap.size + 1, 0, none⟩) x1.args.length (x1.args.length + 2)) hbd
      rw [this]; rfl
  clear hrd hgd hbd b13 b2 c0 c1 c2 f0 f1 f2
  go_wp2_with fail
  generalize u2.setCell ⟨u1.heap.size, 2, none⟩ (.slice (some ⟨u1.heap.size + 1, 0, none⟩) x1.args.length (x1.args.length + 2)) = U3 at *
  obtain ⟨fma, frm, frd, fbx, fbd, fbw⟩ := HF.out
  have HK : Hid (∀ u, Below U3.heap.size U3 u → MA (w.heap.size + 1) ks u ∧ (∀ j c, cs0[j]? = some c → RoomAt u c j ks) ∧ Room u (u1.heap.size + 1) x1.args ∧ u.heap[w.heap.size]? = some (.cells #[.int .i64 x1.site, .int .i64 x1.fn, .slice lo x1.args.length lc] 25 (0, 0)) ∧ u.heap[u1.heap.size]? = some (.cells #[.int .i64 x1.site, .int .i64 x1.fn, .slice (some ⟨u1.heap.size + 1, 0, none⟩) x1.args.length (x1.args.length + 2)] 25 (0, 0)) ∧ Below w.heap.size w u) := fun u hb => ⟨fma.below hb, fun j c h => (frm j c h).keep rfl (room_below hb), room_below hb _ _ frd, by rw [hb.block _ (Array.getElem?_eq_some_iff.1 fbx).1]; exact fbx, by rw [hb.block _ (Array.getElem?_eq_some_iff.1 fbd).1]; exact fbd, fbw.trans (hb.mono fbw.size)⟩
  have HSRC : Hid (∀ u, Below U3.heap.size U3 u → CSrc u (.slice (some ⟨w.heap.size + 1, 0, none⟩) cs0.length (cs0.length + 1)) (ks.take cs0.length) cs0) := fun u hb => ma_src (HK.out u hb).1 hkl (HK.out u hb).2.1 hca hc.size
  have HRDL : Hid (ILies U3 (.slice (some ⟨u1.heap.size + 1, 0, none⟩) x1.args.length (x1.args.length + 2)) x1.args) := room_lies frd hxa
  clear fma frm frd fbx fbd fbw HF HMA HRM HBX
  refine (own_push _ _ cs0 x1 _ U3 (HSRC.out U3 (Below.refl _ _)) hc hx1 HRDL.out).mono ?_
  rintro e u4 ⟨Va, Ma, rfl, qa, b4⟩
  have hla : Ma.length = cs0.length + 1 := by have := qa.len; simpa using this
  obtain ⟨vao, vac, hVa⟩ := row_slice qa.row
  rw [hla] at hVa
  subst hVa
  have HA4 : Hid (COwn U3.heap.size u4.heap.size u4 (.slice vao (cs0.length + 1) vac) Ma) := COwn.of qa
  have HAA : Hid (∀ e ∈ Ma, e.x.args.length ≤ 17592186043904) := fun e he => by
    have : e.x ∈ cs0 ++ [x1] := by rw [← qa.xs]; exact List.mem_map.2 ⟨e, he, rfl⟩
    rcases List.mem_append.1 this with h | h
    · exact hca _ h
    · simp at h; rw [h]; exact hxa
  have HLA : Hid (Ma.length = cs0.length + 1) := hla
  have HB4 : Hid (Below U3.heap.size U3 u4) := b4
  clear qa hla b4
  go_wp2_with fail
  refine (own_pop_any _ _ cs0 u4 (HSRC.out u4 HB4.out) hc).mono ?_
  rintro e u5 ⟨Vb, Mb, cb, c5, L5, ok, rfl, qb, hcb, hzb, ha5, i5, b5⟩
  obtain ⟨lo5, lc5, hL5⟩ := i5.shape
  subst hL5
  unfold cval
  have HBB : Hid (COwn u4.heap.size u5.heap.size u5 Vb Mb) := COwn.of qb
  have HBA : Hid (∀ e ∈ Mb, e.x.args.length ≤ 17592186043904) := fun e he => hcb _ (by rw [← qb.xs]; exact List.mem_map.2 ⟨e, he, rfl⟩)
  have HBZ : Hid (Mb.length ≤ 3518437208870) := by have := qb.len; show _ ≤ _; omega
  have HI5 : Hid (IOwn u4.heap.size u5 (.slice lo5 c5.args.length lc5) c5.args) := i5
  have HB5 : Hid (Below u4.heap.size u4 u5) := b5
  have HA5 : Hid (c5.args.length ≤ 17592186043904) := ha5
  clear qb hcb hzb ha5 i5 b5
  go_wp2_with fail
  refine (own_order0 _ _ cs0 _ (HSRC.out _ ((HB4.out.trans (HB5.out.mono HB4.out.size)).alloc (Nat.le_trans HB4.out.size HB5.out.size) _)) hc).mono ?_
  rintro e u6 ⟨Vf, Mf, rfl, qf, b6⟩
  have hbe := box_stays b6
  have hsz5 : (u5.alloc (.cells #[.int .i64 c5.site, .int .i64 c5.fn, .slice lo5 c5.args.length lc5] 25)).heap.size = u5.heap.size + 1 := by simp
  rw [hsz5] at qf
  have HBE : Hid (u6.heap[u5.heap.size]? = some (.cells #[.int .i64 c5.site, .int .i64 c5.fn, .slice lo5 c5.args.length lc5] 25 (0, 0))) := hbe
  have hlf : Mf.length = cs0.length := by have := qf.len; simpa using this
  obtain ⟨vfo, vfc, hVf⟩ := row_slice qf.row
  rw [hlf] at hVf
  subst hVf
  have HQF : Hid (CRow (u5.heap.size + 1) u6 (.slice vfo cs0.length vfc) Mf cs0.reverse) := qf
  have HLF : Hid (Mf.length = cs0.length) := hlf
  have HB6 : Hid (Below u5.heap.size u5 u6) := below_up b6
  clear qf hlf hsz5 hbe b6
  go_wp2_with fail
  refine (own_scribbleCalls _ Ma U3.heap.size u4.heap.size u6 (HA4.out.below (HB5.out.trans (HB6.out.mono HB5.out.size))) (Nat.le_trans HB4.out.size (Nat.le_trans HB5.out.size HB6.out.size)) (by rw [HLA.out]; omega) HAA.out).mono ?_
  rintro e u7 ⟨rfl, sa⟩
  have BU7 : Hid (Below U3.heap.size U3 u7) := ((HB4.out.trans (HB5.out.mono HB4.out.size)).trans (HB6.out.mono (Nat.le_trans HB4.out.size HB5.out.size))).trans sa.bel
  have HB7 : Hid (COwn u4.heap.size u5.heap.size u7 Vb Mb) := cown_hi (HBB.out.below HB6.out) (Nat.le_refl _) sa
  have HI7 : Hid (IOwn u4.heap.size u7 (.slice lo5 c5.args.length lc5) c5.args) := row_hi (IOwn.below HI5.out HB6.out) (Nat.le_refl _) sa
  have HF7 : Hid (CRow (u5.heap.size + 1) u7 (.slice vfo cs0.length vfc) Mf cs0.reverse) := crow_hi HQF.out (Nat.le_trans HB5.out.size (Nat.le_succ _)) sa
  have hbe7 : u7.heap[u5.heap.size]? = some (.cells #[.int .i64 c5.site, .int .i64 c5.fn, .slice lo5 c5.args.length lc5] 25 (0, 0)) := by
    rw [sa.hi _ HB5.out.size (Array.getElem?_eq_some_iff.1 HBE.out).1]; exact HBE.out
  obtain ⟨⟨p0, p1, p2⟩, r0, r1, r2⟩ := box3 hbe7
  have HZ7 : Hid (u4.heap.size ≤ u7.heap.size) := Nat.le_trans HB5.out.size (Nat.le_trans HB6.out.size sa.bel.size)
  have HZ67 : Hid (u6.heap.size ≤ u7.heap.size) := sa.bel.size
  clear sa hbe7
  go_wp2_with fail
  refine (own_scribble _ c5.args.length u4.heap.size u5.heap.size u7 ⟨_, HI7.out, fun g hg => (World.ownsRow.lt HI5.out g hg).2⟩ HZ7.out HA5.out).mono ?_
  rintro e u8 ⟨rfl, se, oe⟩
  have BU8 : Hid (Below U3.heap.size U3 u8) := BU7.out.trans (se.bel.mono HB4.out.size)
  have HB8 : Hid (COwn u4.heap.size u5.heap.size u8 Vb Mb) := cown_beside HB7.out se HI7.out oe
  have HF8 : Hid (CRow (u5.heap.size + 1) u8 (.slice vfo cs0.length vfc) Mf cs0.reverse) := crow_hi HF7.out (Nat.le_succ _) se
  have HZ8 : Hid (u4.heap.size ≤ u8.heap.size) := Nat.le_trans HZ7.out se.bel.size
  have HZ68 : Hid (u6.heap.size ≤ u8.heap.size) := Nat.le_trans HZ67.out se.bel.size
  clear se oe p0 p1 p2 r0 r1 r2
  go_wp2_with fail
  refine (own_scribbleCalls _ Mb u4.heap.size u5.heap.size u8 HB8.out HZ8.out HBZ.out HBA.out).mono ?_
  rintro e u9 ⟨rfl, sb⟩
  have BU9 : Hid (Below U3.heap.size U3 u9) := BU8.out.trans (sb.bel.mono HB4.out.size)
  have HF9 : Hid (CRow (u5.heap.size + 1) u9 (.slice vfo cs0.length vfc) Mf cs0.reverse) := crow_hi HF8.out (Nat.le_succ _) sb
  have HU3 : Hid (U3.heap.size ≤ u5.heap.size + 1) := Nat.le_trans HB4.out.size (Nat.le_trans HB5.out.size (Nat.le_succ _))
  have HFA : Hid (∀ e ∈ Mf, e.x.args.length ≤ 17592186043904) := fun e he => hca _ (List.mem_reverse.1 (by rw [← HF9.out.xs]; exact List.mem_map.2 ⟨e, he, rfl⟩))
  have HZ69 : Hid (u6.heap.size ≤ u9.heap.size) := Nat.le_trans HZ68.out sb.bel.size
  have HZ9 : Hid (u5.heap.size + 1 ≤ u9.heap.size) := by
    have h6 : u5.heap.size < u6.heap.size := (Array.getElem?_eq_some_iff.1 HBE.out).1
    have h7 : u6.heap.size ≤ u9.heap.size := HZ69.out
    show _ ≤ _
    omega
  have HFZ : Hid (Mf.length ≤ 3518437208870) := by show _ ≤ _; rw [HLF.out]; omega
  clear sb
  go_wp2_with fail
  by_cases h0 : cs0 = []
  · subst h0
    simp only [List.length_nil]
    go_quiet (fail)
    go_wp2_with fail
    refine (own_scribbleCalls _ Mf (u5.heap.size + 1) u9.heap.size _ ((COwn.of HF9.out).below (below_dn _ _)) (Nat.le_trans HZ9.out (below_dn _ _).size) HFZ.out HFA.out).mono ?_
    rintro e u11 ⟨rfl, sf⟩
    have BU11 : Hid (Below U3.heap.size U3 u11) := (BU9.out.trans (Below.mono (below_dn _ _) BU9.out.size)).trans (sf.bel.mono HU3.out)
    have HK11 : Hid _ := HK.out u11 BU11.out
    clear sf
    go_wp2_with fail
    refine (own_stayedCalls _ es0 _ (w.heap.size + 1) ks u11 (HV.out u11 HK11.out.2.2.2.2.2) hc HK11.out.1 hkl hlast HK11.out.2.1).mono ?_
    rintro e u12 ⟨rfl, b12⟩
    have BU12 : Hid (Below U3.heap.size U3 u12) := BU11.out.trans (b12.mono BU11.out.size)
    obtain ⟨-, -, k3, k4, k5, k6⟩ := HK.out u12 BU12.out
    obtain ⟨⟨c0, c1, c2⟩, f0, f1, f2⟩ := box3 k4
    obtain ⟨⟨d0, d1, d2⟩, g0, g1, g2⟩ := box3 k5
    have HST : Hid _ := own_stayed x1.args (.slice lo x1.args.length lc) (u1.heap.size + 1) u12 (HM.out u12 k6) k3 hxa
    have HBW : Hid (Below w.heap.size w u12) := k6
    clear k3 k4 k5 k6 b12
    go_wp2_with fail
    refine Calls.mono HST.out ?_
    rintro e u13 ⟨rfl, q, rfl⟩
    go_wp2_with fail
    all_goals go_ret
    all_goals exact ⟨rfl, HBW.out.trans ((below_dn _ _).mono HBW.out.size)⟩
  · obtain ⟨m, hm⟩ : ∃ m, cs0.length = m + 1 := ⟨cs0.length - 1, by have : cs0.length ≠ 0 := fun h => h0 (List.eq_nil_of_length_eq_zero h); omega⟩
    have hm2 : m < cs0.length := by omega
    obtain ⟨e0, he0⟩ : ∃ e0, Mf[0]? = some e0 := ⟨_, List.getElem?_eq_getElem (by rw [HLF.out]; omega)⟩
    have hx0 : e0.x = cs0[m] := by
      have h1 : cs0.reverse[0]? = some e0.x := by rw [← HF9.out.xs, List.getElem?_map, he0]; rfl
      rw [List.getElem?_reverse (by omega)] at h1
      have h2 : cs0.length - 1 - 0 = m := by omega
      rw [h2, List.getElem?_eq_getElem hm2] at h1
      simpa using h1.symm
    obtain ⟨gf, hgf⟩ : ∃ g, vfo = some ⟨g, 0, none⟩ := by
      rcases HF9.out.row.2 with ⟨a0, a1⟩ | ⟨g, cap', cur, a1, _⟩
      · rw [HLF.out] at a1; omega
      · injection a1 with a2; exact ⟨g, a2⟩
    subst hgf
    have hsrc := HV.out w (Below.refl _ _)
    have hk : m < es0.length := by have := HLE.out; omega
    obtain ⟨b1, o1, hvo⟩ : ∃ b1 o1, vo = some ⟨b1, o1, none⟩ := by
      obtain ⟨b1, o1, cc1, hv1, -, -, -⟩ := hsrc.row.at hk
      injection hv1 with hv2
      exact ⟨b1, o1, hv2⟩
    subst hvo
    have hxe := hsrc.one hk hm2
    obtain ⟨lo9, lc9, hL9⟩ := (hsrc.lies es0[m] (List.getElem_mem hk)).shape
    obtain ⟨lof, lcf, hLf⟩ := (HF9.out.lies e0 (List.mem_of_getElem? he0)).shape
    rw [hxe] at hL9
    rw [hx0] at hLf
    have HG : Hid (∀ u, Below u9.heap.size u9 u → ((u.cell? ⟨gf, 0, none⟩ = some (.int .i64 cs0[m].site) ∧ u.cell? ⟨gf, 1, none⟩ = some (.int .i64 cs0[m].fn) ∧ u.cell? ⟨gf, 2, none⟩ = some (.slice lof cs0[m].args.length lcf)) ∧ (u.cell? ⟨b1, o1 + m * 3, none⟩ = some (.int .i64 cs0[m].site) ∧ u.cell? ⟨b1, o1 + m * 3 + 1, none⟩ = some (.int .i64 cs0[m].fn) ∧ u.cell? ⟨b1, o1 + m * 3 + 2, none⟩ = some (.slice lo9 cs0[m].args.length lc9))) ∧ Calls Try.prog 15 #[.agg #[.int .i64 cs0[m].site, .int .i64 cs0[m].fn, .slice lof cs0[m].args.length lcf], .agg #[.int .i64 cs0[m].site, .int .i64 cs0[m].fn, .slice lo9 cs0[m].args.length lc9]] u fun e w' => e = .returned (.bool true) ∧ Below u.heap.size u w') := fun u hb => by
      have hbw := (HK.out u (BU9.out.trans (hb.mono BU9.out.size))).2.2.2.2.2
      have hs2 := HV.out u hbw
      obtain ⟨b1', o1', cc1', hv1', y0, y1, y2⟩ := hs2.row.at hk
      injection hv1' with hv2' _ _
      injection hv2' with hv3'
      injection hv3' with hv4' hv5' _
      subst hv4'
      subst hv5'
      rw [hxe] at y0 y1
      rw [hL9] at y2
      have hc9 := ((HF9.out.below hb).cells HLF.out he0).1
      rw [hx0, hLf] at hc9
      simp only [Nat.zero_mul, Nat.zero_add] at hc9
      have l1 := IOwn.lies ((HF9.out.below hb).lies e0 (List.mem_of_getElem? he0))
      rw [hx0, hLf] at l1
      have l2 := hs2.lies es0[m] (List.getElem_mem hk)
      rw [hxe, hL9] at l2
      exact ⟨⟨hc9, y0, y1, y2⟩, own_same cs0[m] _ _ u l1 l2 (by have := hca _ (List.getElem_mem hm2); omega)⟩
    have hpos : 0 < cs0.length := by omega
    have hmi : (cs0.length : Int) - 1 = (m : Int) := by omega
    have hwm : IntKind.i64.wrap (m : Int) = (m : Int) := by rw [IntKind.wrap_i64]; omega
    have hml : (m : Int) < (cs0.length : Int) := by omega
    clear hsrc hxe hL9 hLf he0 hx0 hk hm h0
    generalize cs0[m] = c9 at *
    refine wp_grow [isV (.slice (some ⟨gf, 0, none⟩) cs0.length vfc), isV (.int .i64 (cs0.length : Nat)), isV (.bool true), isV (.bool true), isV (.slice (some ⟨gf, 0, none⟩) cs0.length vfc), isV (.pointer (some ⟨gf, 0, none⟩)), isV (.agg #[.int .i64 c9.site, .int .i64 c9.fn, .slice lof c9.args.length lcf]), isV (.slice (some ⟨b1, o1, none⟩) cs0.length vc), isV (.slice (some ⟨b1, o1, none⟩) cs0.length vc), isV (.int .i64 (cs0.length : Nat)), isV (.int .i64 (m : Nat)), isV (.pointer (some ⟨b1, o1 + m * 3, none⟩)), isV (.agg #[.int .i64 c9.site, .int .i64 c9.fn, .slice lo9 c9.args.length lc9]), isV (.bool true), isV (.bool false), isV (.bool false)]
      ⟨stab_is _, stab_is _, stab_is _, stab_is _, stab_is _, stab_is _, stab_is _, stab_is _, stab_is _, stab_is _, stab_is _, stab_is _, stab_is _, stab_is _, stab_is _, stab_is _, trivial⟩ (by kernel_rfl) (by kernel_rfl) (by kernel_rfl) ?_ ?_
    · refine stepsOK_cons (fun f u hG hd K hK => ?_) (stepsOK_cons (fun f u hG hd K hK => ?_) (stepsOK_cons (fun f u hG hd K hK => ?_) (stepsOK_cons (fun f u hG hd K hK => ?_) (stepsOK_cons (fun f u hG hd K hK => ?_) (stepsOK_cons (fun f u hG hd K hK => ?_) (stepsOK_cons (fun f u hG hd K hK => ?_) (stepsOK_cons (fun f u hG hd K hK => ?_) (stepsOK_cons (fun f u hG hd K hK => ?_) (stepsOK_cons (fun f u hG hd K hK => ?_) (stepsOK_cons (fun f u hG hd K hK => ?_) (stepsOK_cons (fun f u hG hd K hK => ?_) (stepsOK_cons (fun f u hG hd K hK => ?_) (stepsOK_cons (fun f u hG hd K hK => ?_) (stepsOK_cons (fun f u hG hd K hK => ?_) (stepsOK_cons (fun f u hG hd K hK => ?_) stepsOK_nil)))))))))))))))
      · refine wanted_on rfl ?_
        simp only [putAll, Act.put, List.setIfInBounds_toArray, List.set_cons_zero, List.set_cons_succ] at hK ⊢
        go_simp
        exact hK _ _ _ rfl hG (Below.refl _ _) rfl
      · have e0 : f 0 = (.slice (some ⟨gf, 0, none⟩) cs0.length vfc) := hd 0 (by kernel_rfl)
        refine wanted_on rfl ?_
        simp only [putAll, Act.put, List.setIfInBounds_toArray, List.set_cons_zero, List.set_cons_succ, e0] at hK ⊢
        go_simp
        exact hK _ _ _ rfl hG (Below.refl _ _) rfl
      · have e1 : f 1 = (.int .i64 (cs0.length : Nat)) := hd 1 (by kernel_rfl)
        refine wanted_on rfl ?_
        simp only [putAll, Act.put, List.setIfInBounds_toArray, List.set_cons_zero, List.set_cons_succ, e1] at hK ⊢
        go_simp
        exact hK _ _ _ rfl hG (Below.refl _ _) (by first | rfl | simp [isV, atR, hpos])
      · have e2 : f 2 = (.bool true) := hd 2 (by kernel_rfl)
        refine wanted_on rfl ?_
        simp only [putAll, Act.put, List.setIfInBounds_toArray, List.set_cons_zero, List.set_cons_succ, e2] at hK ⊢
        go_simp
        exact hK _ _ _ rfl hG (Below.refl _ _) rfl
      · have e3 : f 3 = (.bool true) := hd 3 (by kernel_rfl)
        refine wanted_on (by simp [Region.wanted, yielded, putAll, Act.put, List.setIfInBounds_toArray, List.set_cons_zero, List.set_cons_succ, e3]) ?_
        simp only [putAll, Act.put, List.setIfInBounds_toArray, List.set_cons_zero, List.set_cons_succ, e3] at hK ⊢
        go_simp
        exact hK _ _ _ rfl hG (Below.refl _ _) rfl
      · have e3 : f 3 = (.bool true) := hd 3 (by kernel_rfl)
        have e4 : f 4 = (.slice (some ⟨gf, 0, none⟩) cs0.length vfc) := hd 4 (by kernel_rfl)
        refine wanted_on (by simp [Region.wanted, yielded, putAll, Act.put, List.setIfInBounds_toArray, List.set_cons_zero, List.set_cons_succ, e3, e4]) ?_
        simp only [putAll, Act.put, List.setIfInBounds_toArray, List.set_cons_zero, List.set_cons_succ, e3, e4] at hK ⊢
        go_simp
        exact hK _ _ _ rfl hG (Below.refl _ _) rfl
      · have e3 : f 3 = (.bool true) := hd 3 (by kernel_rfl)
        have e5 : f 5 = (.pointer (some ⟨gf, 0, none⟩)) := hd 5 (by kernel_rfl)
        obtain ⟨⟨⟨z0, z1, z2⟩, y0, y1, y2⟩, -⟩ := HG.out u hG
        refine wanted_on (by simp [Region.wanted, yielded, putAll, Act.put, List.setIfInBounds_toArray, List.set_cons_zero, List.set_cons_succ, e3, e5]) ?_
        simp only [putAll, Act.put, List.setIfInBounds_toArray, List.set_cons_zero, List.set_cons_succ, e3, e5] at hK ⊢
        go_simp
        exact hK _ _ _ rfl hG (Below.refl _ _) rfl
      · have e3 : f 3 = (.bool true) := hd 3 (by kernel_rfl)
        refine wanted_on (by simp [Region.wanted, yielded, putAll, Act.put, List.setIfInBounds_toArray, List.set_cons_zero, List.set_cons_succ, e3]) ?_
        simp only [putAll, Act.put, List.setIfInBounds_toArray, List.set_cons_zero, List.set_cons_succ, e3] at hK ⊢
        go_simp
        exact hK _ _ _ rfl hG (Below.refl _ _) rfl
      · have e3 : f 3 = (.bool true) := hd 3 (by kernel_rfl)
        refine wanted_on (by simp [Region.wanted, yielded, putAll, Act.put, List.setIfInBounds_toArray, List.set_cons_zero, List.set_cons_succ, e3]) ?_
        simp only [putAll, Act.put, List.setIfInBounds_toArray, List.set_cons_zero, List.set_cons_succ, e3] at hK ⊢
        go_simp
        exact hK _ _ _ rfl hG (Below.refl _ _) rfl
      · have e3 : f 3 = (.bool true) := hd 3 (by kernel_rfl)
        have e8 : f 8 = (.slice (some ⟨b1, o1, none⟩) cs0.length vc) := hd 8 (by kernel_rfl)
        refine wanted_on (by simp [Region.wanted, yielded, putAll, Act.put, List.setIfInBounds_toArray, List.set_cons_zero, List.set_cons_succ, e3, e8]) ?_
        simp only [putAll, Act.put, List.setIfInBounds_toArray, List.set_cons_zero, List.set_cons_succ, e3, e8] at hK ⊢
        go_simp
        exact hK _ _ _ rfl hG (Below.refl _ _) rfl
      · have e3 : f 3 = (.bool true) := hd 3 (by kernel_rfl)
        have e9 : f 9 = (.int .i64 (cs0.length : Nat)) := hd 9 (by kernel_rfl)
        refine wanted_on (by simp [Region.wanted, yielded, putAll, Act.put, List.setIfInBounds_toArray, List.set_cons_zero, List.set_cons_succ, e3, e9]) ?_
        simp only [putAll, Act.put, List.setIfInBounds_toArray, List.set_cons_zero, List.set_cons_succ, e3, e9] at hK ⊢
        go_simp
        exact hK _ _ _ rfl hG (Below.refl _ _) rfl
      · have e3 : f 3 = (.bool true) := hd 3 (by kernel_rfl)
        have e7 : f 7 = (.slice (some ⟨b1, o1, none⟩) cs0.length vc) := hd 7 (by kernel_rfl)
        have e10 : f 10 = (.int .i64 (m : Nat)) := hd 10 (by kernel_rfl)
        refine wanted_on (by simp [Region.wanted, yielded, putAll, Act.put, List.setIfInBounds_toArray, List.set_cons_zero, List.set_cons_succ, e3, e7, e10]) ?_
        simp only [putAll, Act.put, List.setIfInBounds_toArray, List.set_cons_zero, List.set_cons_succ, e3, e7, e10] at hK ⊢
        go_simp
        exact hK _ _ _ rfl hG (Below.refl _ _) rfl
      · have e3 : f 3 = (.bool true) := hd 3 (by kernel_rfl)
        have e11 : f 11 = (.pointer (some ⟨b1, o1 + m * 3, none⟩)) := hd 11 (by kernel_rfl)
        obtain ⟨⟨⟨z0, z1, z2⟩, y0, y1, y2⟩, -⟩ := HG.out u hG
        refine wanted_on (by simp [Region.wanted, yielded, putAll, Act.put, List.setIfInBounds_toArray, List.set_cons_zero, List.set_cons_succ, e3, e11]) ?_
        simp only [putAll, Act.put, List.setIfInBounds_toArray, List.set_cons_zero, List.set_cons_succ, e3, e11] at hK ⊢
        go_simp
        exact hK _ _ _ rfl hG (Below.refl _ _) rfl
      · have e3 : f 3 = (.bool true) := hd 3 (by kernel_rfl)
        have e6 : f 6 = (.agg #[.int .i64 c9.site, .int .i64 c9.fn, .slice lof c9.args.length lcf]) := hd 6 (by kernel_rfl)
        have e12 : f 12 = (.agg #[.int .i64 c9.site, .int .i64 c9.fn, .slice lo9 c9.args.length lc9]) := hd 12 (by kernel_rfl)
        refine wanted_on (by simp [Region.wanted, yielded, putAll, Act.put, List.setIfInBounds_toArray, List.set_cons_zero, List.set_cons_succ, e3, e6, e12]) ?_
        simp only [putAll, Act.put, List.setIfInBounds_toArray, List.set_cons_zero, List.set_cons_succ, e3, e6, e12] at hK ⊢
        go_simp
        refine ((HG.out u hG).2).mono ?_
        rintro e u1 ⟨rfl, hb⟩
        exact hK _ _ _ rfl (hG.trans (hb.mono hG.size)) hb rfl
      · have e3 : f 3 = (.bool true) := hd 3 (by kernel_rfl)
        have e13 : f 13 = (.bool true) := hd 13 (by kernel_rfl)
        refine wanted_on (by simp [Region.wanted, yielded, putAll, Act.put, List.setIfInBounds_toArray, List.set_cons_zero, List.set_cons_succ, e3, e13]) ?_
        simp only [putAll, Act.put, List.setIfInBounds_toArray, List.set_cons_zero, List.set_cons_succ, e3, e13] at hK ⊢
        go_simp
        exact hK _ _ _ rfl hG (Below.refl _ _) rfl
      · have e3 : f 3 = (.bool true) := hd 3 (by kernel_rfl)
        have e14 : f 14 = (.bool false) := hd 14 (by kernel_rfl)
        refine wanted_on rfl ?_
        simp only [putAll, Act.put, List.setIfInBounds_toArray, List.set_cons_zero, List.set_cons_succ, e3, e14] at hK ⊢
        go_simp
        exact hK _ _ _ rfl hG (Below.refl _ _) rfl
    · intro f u hG hf
      have e15 : f 15 = .bool false := hf 15 (by decide)
      simp only [putAll, Act.put, List.setIfInBounds_toArray, List.set_cons_zero, List.set_cons_succ, Nat.reduceAdd, e15]
      go_wp2_with fail
      refine (own_scribbleCalls _ Mf (u5.heap.size + 1) u9.heap.size u ((COwn.of HF9.out).below hG) (Nat.le_trans HZ9.out hG.size) HFZ.out HFA.out).mono ?_
      rintro e u11 ⟨rfl, sf⟩
      have BU11 : Hid (Below U3.heap.size U3 u11) := (BU9.out.trans (Below.mono hG BU9.out.size)).trans (sf.bel.mono HU3.out)
      have HK11 : Hid _ := HK.out u11 BU11.out
      clear sf
      go_wp2_with fail
      refine (own_stayedCalls _ es0 _ (w.heap.size + 1) ks u11 (HV.out u11 HK11.out.2.2.2.2.2) hc HK11.out.1 hkl hlast HK11.out.2.1).mono ?_
      rintro e u12 ⟨rfl, b12⟩
      have BU12 : Hid (Below U3.heap.size U3 u12) := BU11.out.trans (b12.mono BU11.out.size)
      obtain ⟨-, -, k3, k4, k5, k6⟩ := HK.out u12 BU12.out
      obtain ⟨⟨c0, c1, c2⟩, f0, f1, f2⟩ := box3 k4
      obtain ⟨⟨d0, d1, d2⟩, g0, g1, g2⟩ := box3 k5
      have HST : Hid _ := own_stayed x1.args (.slice lo x1.args.length lc) (u1.heap.size + 1) u12 (HM.out u12 k6) k3 hxa
      have HBW : Hid (Below w.heap.size w u12) := k6
      clear k3 k4 k5 k6 b12
      go_wp2_with fail
      refine Calls.mono HST.out ?_
      rintro e u13 ⟨rfl, q, rfl⟩
      go_wp2_with fail
      all_goals go_ret
      all_goals exact ⟨rfl, HBW.out.trans ((below_dn _ _).mono HBW.out.size)⟩

theorem contract (H : Type) (enc : TypeId × Value → H) (W : World) (base : Nat) (args : Array Value) (ds gs : List (DataW H)) (before : List MemPlace)
    (hval : ∀ (j : Nat) t v, Try.f3.params[j]? = some t → args[j]? = some v → Value.okWide Try.prog W .any base t v)
    (hW : DataW.Whole enc Try.prog Try.f3.params.toList Rows.defersMemorySpec.vars false W args.toList ds gs before)
    (hsz : (DataW.weightsEach Try.prog (Try.f3.params.toList ++ Rows.defersMemorySpec.plain.varTypes Try.prog) (ds ++ gs)).all (· ≤ reachBytes) = true) :
    Calls Try.prog 3 args W fun e W' => ∃ v, e = .returned v ∧ Rows.defersMemorySpec.post enc Try.prog Try.f3 false true false false W args v W' := by
  have hW' := hW
  obtain ⟨p, q, hA0, hV, rfl, hfz, hnd⟩ := hW
  have hA : DataW.TrodAll enc Try.prog W 0 (fun _ => true) true Try.f3.params.toList args.toList ds p := hA0
  rw [Try.params3] at hA hval hsz
  obtain ⟨v0, vs0, d0, ds0, p0, q0, hargs, rfl, rfl, h0, r0⟩ := trodAll_cons hA
  obtain ⟨v1, vs1, d1, ds1, p1, q1, rfl, rfl, rfl, h1, r1⟩ := trodAll_cons r0
  obtain ⟨rfl, rfl, rfl⟩ := trodAll_nil r1
  obtain rfl : args = #[v0, v1] := by cases args; simp_all
  obtain ⟨rfl, rfl⟩ := trodVars_none hV
  obtain ⟨ao0, len0, cap0, rfl⟩ := okWide_slice Try.underlying22 (hval 0 22 v0 rfl rfl)
  obtain ⟨es0, cs0, hC0, hE0, hN0⟩ := cs_came (j := 0) h0 hsz rfl rfl
  obtain ⟨x1, L1, rfl, i1, m1⟩ := ccame_of (j := 1) (hval 1 25 v1 rfl rfl) h1 hsz rfl rfl
  clear hA0
  simp only [List.append_nil] at hW'
  have hlt0 : ∀ x ∈ p0, x.block < W.heap.size := fun x hx => hW'.lt x (by simp [hx])
  have hlt1 : ∀ x ∈ p1, x.block < W.heap.size := fun x hx => hW'.lt x (by simp [hx])
  refine (walk _ es0 cs0 x1 L1 W hC0 hE0 hN0 i1 m1).mono fun e W' ⟨he, bel⟩ => ?_
  subst he
  exact ⟨_, rfl, _, _, _, [], p0 ++ (p1 ++ []), [], hW', trodAll_mk1 (shut_bool Try.underlying4 _), (trodAll_cons_mk (Below.trod (by kernel_rfl) (by kernel_rfl) (of_decide_eq_true (by kernel_rfl)) h0 bel hlt0) (trodAll_cons_mk (Below.trod (by kernel_rfl) (by kernel_rfl) (of_decide_eq_true (by kernel_rfl)) h1 bel hlt1) trodAll_mk0)), rfl, bel.frame _, fun h => by cases h⟩

set_option maxRecDepth 100000 in
theorem lifted (os : Os) (started : os.Started) (H : Type) (enc : TypeId × Value → H) :
    ReturnsInHanded {} Try.checked os 3 .any (Rows.defersMemorySpec.pre6 enc Try.prog Try.f3 Rows.defersMemoryRow.domain false) (Rows.defersMemorySpec.post enc Try.prog Try.f3 false true false false) := by
  refine returnsInHanded_of_change_sized (C := Try.checked) own started (by kernel_rfl) Try.func3
    (ChangeSpec.witness6 (enc := enc) (C := Try.checked) false ⟨#[], #[.slice none 0 0, .agg #[.int .i64 0, .int .i64 0, .slice none 0 0]], []⟩ 8 (by kernel_rfl) (by kernel_rfl) (by kernel_rfl) (by kernel_rfl)) ?_
  intro W base args ds gs before hval0 hW hcnd hsz _
  exact contract H enc W base args ds gs before hval0 hW hsz

theorem proved : Rows.DefersMemorySaid :=
  OpenClaim.holds_of_wide 3 Try.f3 rfl rfl rfl rfl rfl rfl rfl ⟨rfl, rfl, rfl, rfl, rfl⟩ rfl rfl rfl rfl rfl (by kernel_rfl) Try.func3 (by kernel_rfl)
    (of_decide_eq_true (by kernel_rfl)) (by unfold Func.isWrapper; first | (rw [if_pos (by decide +kernel)]; kernel_rfl) | (rw [if_neg (by decide +kernel)]; exact ⟨rfl, rfl⟩))
    (fun os started H enc _ => lifted os started H enc)
#print axioms proved
end Go.Proofs.Ytiaoidbhdkldlab.defersMemory
