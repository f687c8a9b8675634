/- Calls that are alike are told to be alike. -/
import Derived.Test.YtiaoidbhdkldlabCcopy
import Derived.BigQuiet
import Derived.Deep.QuietTactic
import Derived.Test.YtiaoidbhdkldlabSteady
namespace Go.Proofs.Ytiaoidbhdkldlab
open Go.ChangeShapes Go.WideShapes Go.ChangeAt Go.RowKit
set_option maxRecDepth 100000
set_option linter.unusedSimpArgs false
set_option linter.unusedVariables false

theorem below_dn (w : World) (n : Nat) : Below w.heap.size w (w.drewN n) := ⟨rfl, rfl, rfl, Nat.le_refl _, fun _ _ => rfl⟩
theorem list_split (l m : List Int) (k : Nat) (hl : k < l.length) (hm : k < m.length) (h : l.take k = m.take k) : (l == m) = (decide (l[k] = m[k]) && (l.drop (k + 1) == m.drop (k + 1))) := by
  have e1 : l = l.take k ++ l[k] :: l.drop (k + 1) := by rw [← List.drop_eq_getElem_cons hl, List.take_append_drop]
  have e2 : m = m.take k ++ m[k] :: m.drop (k + 1) := by rw [← List.drop_eq_getElem_cons hm, List.take_append_drop]
  rw [Bool.eq_iff_iff]
  simp only [beq_iff_eq, Bool.and_eq_true, decide_eq_true_eq]
  constructor
  · intro e; subst e; exact ⟨rfl, rfl⟩
  · rintro ⟨h1, h2⟩
    rw [e1, e2, h, h1, h2]
theorem ILies.at {w : World} {v : Value} {l : List Int} (h : ILies w v l) {k : Nat} (hk : k < l.length) : ∃ b off cap, v = .slice (some ⟨b, off, none⟩) l.length cap ∧ w.cell? ⟨b, off + k, none⟩ = some (.int .i64 l[k]) := by
  rcases h with ⟨_, h⟩ | ⟨⟨b, off, spot⟩, cap, h1, h2, h2', h3, h4⟩
  · subst h; simp at hk
  · have := h3 (by rintro rfl; simp at hk)
    simp only at this
    subst this
    refine ⟨b, off, cap, h1, ?_⟩
    have := h4 k l[k] (List.getElem?_eq_getElem hk)
    rwa [add_plain] at this
set_option maxHeartbeats 4000000 in
theorem own_same (x : Cc) (L M : Value) (w : World) (hl : ILies w L x.args) (hm : ILies w M x.args) (hs : x.args.length ≤ 140737488351232) :
    Calls Try.prog 15 #[cval x L, cval x M] w fun e w' => e = .returned (.bool true) ∧ Below w.heap.size w w' := by
  have HX : Hid (∀ k (h1 : k < x.args.length), ∃ b1 o1 c1 b2 o2 c2, L = .slice (some ⟨b1, o1, none⟩) x.args.length c1 ∧ M = .slice (some ⟨b2, o2, none⟩) x.args.length c2 ∧ ∀ u, Below w.heap.size w u → u.cell? ⟨b1, o1 + k, none⟩ = some (.int .i64 x.args[k]) ∧ u.cell? ⟨b2, o2 + k, none⟩ = some (.int .i64 x.args[k])) := fun k h1 => by
    obtain ⟨b1, o1, c1, e1, x1⟩ := hl.at h1
    obtain ⟨b2, o2, c2, e2, x2⟩ := hm.at h1
    exact ⟨b1, o1, c1, b2, o2, c2, e1, e2, fun u hb => ⟨by rw [hb.cell (World.block_lt_of_cell? _ _ x1)]; exact x1, by rw [hb.cell (World.block_lt_of_cell? _ _ x2)]; exact x2⟩⟩
  obtain ⟨lo, lc, rfl⟩ := hl.shape
  obtain ⟨mo, mc, rfl⟩ := hm.shape
  clear hl hm
  unfold cval
  obtain ⟨o1, ho1⟩ : ∃ o1, o1 = Obj.cells #[.int .i64 x.site, .int .i64 x.fn, .slice lo x.args.length lc] 25 := ⟨_, rfl⟩
  go_enter Try.func15, Try.ntmps15
  go_wp2_with fail
  go_loopw [5] (fun i wr => ∃ k : Nat, k ≤ x.args.length ∧ i = .int .i64 k ∧ Hid (Below ((w.alloc (.cells #[.int .i64 x.site, .int .i64 x.fn, .slice lo x.args.length lc] 25)).alloc (.cells #[.int .i64 x.site, .int .i64 x.fn, .slice mo x.args.length mc] 25)).heap.size ((w.alloc (.cells #[.int .i64 x.site, .int .i64 x.fn, .slice lo x.args.length lc] 25)).alloc (.cells #[.int .i64 x.site, .int .i64 x.fn, .slice mo x.args.length mc] 25)) wr)) (fun i _ => x.args.length - (intOf i).toNat)
  case atStart => exact ⟨0, Nat.zero_le _, rfl, Below.refl _ _⟩
  case round =>
    obtain ⟨k, hk, rfl, HB⟩ := hrel
    obtain ⟨hh1, hh2, hz, hb2⟩ := two_boxes HB.out
    obtain ⟨⟨c0, c1, c2⟩, f0, f1, f2⟩ := box3 hh1
    obtain ⟨⟨d0, d1, d2⟩, g0, g1, g2⟩ := box3 hh2
    have HB2 : Hid (Below w.heap.size w wr) := hb2
    clear hb2 hh1 hh2
    by_cases hlt : k < x.args.length
    · obtain ⟨b1, o1, p1, b2, o2, p2, e1, e2, hx⟩ := HX.out k hlt
      cases e1
      cases e2
      obtain ⟨x1, x2⟩ := hx wr HB2.out
      have hlt2 : (k : Int) < (x.args.length : Int) := by omega
      clear hx
      generalize x.args[k] = p at *
      have hne : (p != p) = false := by simp
      go_wp2_with fail
      go_quiet (fail)
      go_wp2_with fail
      go_roundw
      case rel => exact ⟨k + 1, by omega, by go_num, HB.out.trans ((below_dn _ _).mono HB.out.size)⟩
      case measure => simp [intOf]; omega
    · have hlt2 : ¬ (k : Int) < (x.args.length : Int) := by omega
      go_wp2_with fail
      go_ret
      exact ⟨rfl, HB2.out⟩
set_option maxHeartbeats 4000000 in
theorem own_sames (v v2 : Value) (es es2 : List Ce) (cs : List Cc) (w : World) (hv : CSrc w v es cs) (hv2 : CSrc w v2 es2 cs) (hc : ∀ c ∈ cs, c.args.length ≤ 140737488351232) (hz : cs.length ≤ 3518437208900) :
    Calls Try.prog 19 #[v, v2] w fun e w' => e = .returned (.bool true) ∧ Below w.heap.size w w' := by
  have hsz : es.length ≤ 3518437208900 := by rw [hv.len]; exact hz
  have HLE : Hid (es2.length = es.length) := by rw [hv.len, hv2.len]; exact rfl
  obtain ⟨lo, lc, rfl⟩ := hv.row.shape
  obtain ⟨mo, mc, rfl⟩ := hv2.row.shape
  have HX : Hid (∀ k (h1 : k < es.length) (h2 : k < es2.length), ∃ b1 o1 b2 o2, lo = some ⟨b1, o1, none⟩ ∧ mo = some ⟨b2, o2, none⟩ ∧ ∀ u, Below w.heap.size w u → (u.cell? ⟨b1, o1 + k * 3, none⟩ = some (.int .i64 es[k].x.site) ∧ u.cell? ⟨b1, o1 + k * 3 + 1, none⟩ = some (.int .i64 es[k].x.fn) ∧ u.cell? ⟨b1, o1 + k * 3 + 2, none⟩ = some es[k].L) ∧ (u.cell? ⟨b2, o2 + k * 3, none⟩ = some (.int .i64 es[k].x.site) ∧ u.cell? ⟨b2, o2 + k * 3 + 1, none⟩ = some (.int .i64 es[k].x.fn) ∧ u.cell? ⟨b2, o2 + k * 3 + 2, none⟩ = some es2[k].L)) := fun k h1 h2 => by
    obtain ⟨b1, o1, c1, e1, x0, x1, x2⟩ := hv.row.at h1
    obtain ⟨b2, o2, c2, e2, y0, y1, y2⟩ := hv2.row.at h2
    cases e1
    cases e2
    have he : es2[k].x = es[k].x := by rw [hv2.one h2 (by rw [← hv2.len]; exact h2), hv.one h1 (by rw [← hv.len]; exact h1)]
    rw [he] at y0 y1
    exact ⟨b1, o1, b2, o2, rfl, rfl, fun u hb => ⟨⟨by rw [hb.cell (World.block_lt_of_cell? _ _ x0)]; exact x0, by rw [hb.cell (World.block_lt_of_cell? _ _ x1)]; exact x1, by rw [hb.cell (World.block_lt_of_cell? _ _ x2)]; exact x2⟩, by rw [hb.cell (World.block_lt_of_cell? _ _ y0)]; exact y0, by rw [hb.cell (World.block_lt_of_cell? _ _ y1)]; exact y1, by rw [hb.cell (World.block_lt_of_cell? _ _ y2)]; exact y2⟩⟩
  have HC : Hid (∀ k (h1 : k < es.length) (h2 : k < es2.length) u, Below w.heap.size w u → Calls Try.prog 15 #[.agg #[.int .i64 es[k].x.site, .int .i64 es[k].x.fn, es[k].L], .agg #[.int .i64 es[k].x.site, .int .i64 es[k].x.fn, es2[k].L]] u fun e w' => e = .returned (.bool true) ∧ Below u.heap.size u w') := fun k h1 h2 u hb => by
    have he : es2[k].x = es[k].x := by rw [hv2.one h2 (by rw [← hv2.len]; exact h2), hv.one h1 (by rw [← hv.len]; exact h1)]
    have hl2 := hv2.lies es2[k] (List.getElem_mem h2)
    rw [he] at hl2
    have h3 : k < cs.length := by rw [← hv.len]; exact h1
    exact own_same es[k].x es[k].L es2[k].L u ((hv.lies es[k] (List.getElem_mem h1)).below hb (Nat.le_refl _)) (hl2.below hb (Nat.le_refl _)) (by rw [hv.one h1 h3]; exact hc _ (List.getElem_mem h3))
  clear hv hv2 hc
  rw [HLE.out]
  go_enter Try.func19, Try.ntmps19
  go_wp2_with fail
  go_loopw [5] (fun i wr => ∃ k : Nat, k ≤ es.length ∧ i = .int .i64 k ∧ Hid (Below w.heap.size w wr)) (fun i _ => es.length - (intOf i).toNat)
  case atStart => exact ⟨0, Nat.zero_le _, rfl, Below.refl _ _⟩
  case round =>
    obtain ⟨k, hk, rfl, HB⟩ := hrel
    by_cases hlt : k < es.length
    · have hlt3 : k < es2.length := by rw [HLE.out]; exact hlt
      obtain ⟨b1, o1, b2, o2, rfl, rfl, hx⟩ := HX.out k hlt hlt3
      have HXX : Hid _ := hx
      have HCC : Hid _ := HC.out k hlt hlt3
      have hlt2 : (k : Int) < (es.length : Int) := by omega
      clear hx HX HC
      generalize es[k].x.site = sk at *
      generalize es[k].x.fn = fk at *
      generalize es[k].L = Lk at *
      generalize es2[k].L = Mk at *
      obtain ⟨wq, hwq⟩ : ∃ x, wr = x := ⟨_, rfl⟩
      subst hwq
      go_wp2_with fail
      refine wp_grow [isV (.slice (some ⟨b1, o1, none⟩) es.length lc), isV (.int .i64 k), isV (.pointer (some ⟨b1, o1 + k * 3, none⟩)), isV (.agg #[.int .i64 sk, .int .i64 fk, Lk]), isV (.slice (some ⟨b2, o2, none⟩) es.length mc), isV (.int .i64 k), isV (.pointer (some ⟨b2, o2 + k * 3, none⟩)), isV (.agg #[.int .i64 sk, .int .i64 fk, Mk]), isV (.bool true), isV (.bool false)]
        ⟨stab_is _, stab_is _, stab_is _, stab_is _, stab_is _, stab_is _, stab_is _, stab_is _, stab_is _, stab_is _, trivial⟩ (by kernel_rfl) (by kernel_rfl) (by kernel_rfl) ?_ ?_
      · refine stepsOK_cons (fun f u hG hd K hK => ?_) (stepsOK_cons (fun f u hG hd K hK => ?_) (stepsOK_cons (fun f u hG hd K hK => ?_) (stepsOK_cons (fun f u hG hd K hK => ?_) (stepsOK_cons (fun f u hG hd K hK => ?_) (stepsOK_cons (fun f u hG hd K hK => ?_) (stepsOK_cons (fun f u hG hd K hK => ?_) (stepsOK_cons (fun f u hG hd K hK => ?_) (stepsOK_cons (fun f u hG hd K hK => ?_) (stepsOK_cons (fun f u hG hd K hK => ?_) stepsOK_nil)))))))))
        · refine wanted_on rfl ?_
          simp only [putAll, Act.put, List.setIfInBounds_toArray, List.set_cons_zero, List.set_cons_succ] at hK ⊢
          go_simp
          exact hK _ _ _ rfl hG (Below.refl _ _) rfl
        · refine wanted_on rfl ?_
          simp only [putAll, Act.put, List.setIfInBounds_toArray, List.set_cons_zero, List.set_cons_succ] at hK ⊢
          go_simp
          exact hK _ _ _ rfl hG (Below.refl _ _) rfl
        · have e0 : f 0 = (.slice (some ⟨b1, o1, none⟩) es.length lc) := hd 0 (by kernel_rfl)
          have e1 : f 1 = (.int .i64 k) := hd 1 (by kernel_rfl)
          refine wanted_on rfl ?_
          simp only [putAll, Act.put, List.setIfInBounds_toArray, List.set_cons_zero, List.set_cons_succ, e0, e1] at hK ⊢
          go_simp
          exact hK _ _ _ rfl hG (Below.refl _ _) rfl
        · have e2 : f 2 = (.pointer (some ⟨b1, o1 + k * 3, none⟩)) := hd 2 (by kernel_rfl)
          obtain ⟨⟨x0, x1, x2⟩, y0, y1, y2⟩ := HXX.out u (HB.out.trans (hG.mono HB.out.size))
          refine wanted_on rfl ?_
          simp only [putAll, Act.put, List.setIfInBounds_toArray, List.set_cons_zero, List.set_cons_succ, e2] at hK ⊢
          go_simp
          exact hK _ _ _ rfl hG (Below.refl _ _) rfl
        · refine wanted_on rfl ?_
          simp only [putAll, Act.put, List.setIfInBounds_toArray, List.set_cons_zero, List.set_cons_succ] at hK ⊢
          go_simp
          exact hK _ _ _ rfl hG (Below.refl _ _) rfl
        · refine wanted_on rfl ?_
          simp only [putAll, Act.put, List.setIfInBounds_toArray, List.set_cons_zero, List.set_cons_succ] at hK ⊢
          go_simp
          exact hK _ _ _ rfl hG (Below.refl _ _) rfl
        · have e4 : f 4 = (.slice (some ⟨b2, o2, none⟩) es.length mc) := hd 4 (by kernel_rfl)
          have e5 : f 5 = (.int .i64 k) := hd 5 (by kernel_rfl)
          refine wanted_on rfl ?_
          simp only [putAll, Act.put, List.setIfInBounds_toArray, List.set_cons_zero, List.set_cons_succ, e4, e5] at hK ⊢
          go_simp
          exact hK _ _ _ rfl hG (Below.refl _ _) rfl
        · have e6 : f 6 = (.pointer (some ⟨b2, o2 + k * 3, none⟩)) := hd 6 (by kernel_rfl)
          obtain ⟨⟨x0, x1, x2⟩, y0, y1, y2⟩ := HXX.out u (HB.out.trans (hG.mono HB.out.size))
          refine wanted_on rfl ?_
          simp only [putAll, Act.put, List.setIfInBounds_toArray, List.set_cons_zero, List.set_cons_succ, e6] at hK ⊢
          go_simp
          exact hK _ _ _ rfl hG (Below.refl _ _) rfl
        · have e3 : f 3 = (.agg #[.int .i64 sk, .int .i64 fk, Lk]) := hd 3 (by kernel_rfl)
          have e7 : f 7 = (.agg #[.int .i64 sk, .int .i64 fk, Mk]) := hd 7 (by kernel_rfl)
          refine wanted_on rfl ?_
          simp only [putAll, Act.put, List.setIfInBounds_toArray, List.set_cons_zero, List.set_cons_succ, e3, e7] at hK ⊢
          go_simp
          refine (HCC.out u (HB.out.trans (hG.mono HB.out.size))).mono ?_
          rintro e u1 ⟨rfl, hb⟩
          exact hK _ _ _ rfl (hG.trans (hb.mono hG.size)) hb rfl
        · have e8 : f 8 = (.bool true) := hd 8 (by kernel_rfl)
          refine wanted_on rfl ?_
          simp only [putAll, Act.put, List.setIfInBounds_toArray, List.set_cons_zero, List.set_cons_succ, e8] at hK ⊢
          go_simp
          exact hK _ _ _ rfl hG (Below.refl _ _) rfl
      · intro f u hG hf
        have e9 : f 9 = .bool false := hf 9 (by decide)
        simp only [putAll, Act.put, List.setIfInBounds_toArray, List.set_cons_zero, List.set_cons_succ, Nat.reduceAdd, e9]
        go_wp2_with fail
        go_roundw
        case rel => exact ⟨k + 1, by omega, by go_num, HB.out.trans (hG.mono HB.out.size)⟩
        case measure => simp [intOf]; omega
    · have hlt2 : ¬ (k : Int) < (es.length : Int) := by omega
      go_wp2_with fail
      go_ret
      exact ⟨rfl, HB.out⟩
end Go.Proofs.Ytiaoidbhdkldlab
