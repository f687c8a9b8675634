/- Calls that are alike are told to be alike. -/
import Derived.Test.YtiaoidbhdkldlaaCcopy
import Derived.BigQuiet
import Derived.Deep.QuietTactic
import Derived.Test.YtiaoidbhdkldlaaSteady
namespace Go.Proofs.Ytiaoidbhdkldlaa
open Go.ChangeShapes Go.WideShapes Go.ChangeAt Go.RowKit
set_option maxRecDepth 100000
set_option linter.unusedSimpArgs false
set_option linter.unusedVariables false

theorem below_dn (w : World) (n : Nat) : Below w.heap.size w (w.drewN n) := ⟨rfl, rfl, rfl, Nat.le_refl _, fun _ _ => rfl⟩
theorem list_split (l m : List Int) (k : Nat) (hl : k < l.length) (hm : k < m.length) (h : l.take k = m.take k) : (l == m) = (decide (l[k] = m[k]) && (l.drop (k + 1) == m.drop (k + 1))) := by
  have e1 : l = l.take k ++ l[k] :: l.drop (k + 1) := by rw [← List.drop_eq_getElem_cons hl, List.take_append_drop]
  have e2 : m = m.take k ++ m[k] :: m.drop (k + 1) := by rw [← List.drop_eq_getElem_cons hm, List.take_append_drop]
  rw [Bool.eq_iff_iff]
  simp only [beq_iff_eq, Bool.and_eq_true, decide_eq_true_eq]
  constructor
  · intro e; subst e; exact ⟨rfl, rfl⟩
  · rintro ⟨h1, h2⟩
    rw [e1, e2, h, h1, h2]
theorem ILies.at {w : World} {v : Value} {l : List Int} (h : ILies w v l) {k : Nat} (hk : k < l.length) : ∃ b off cap, v = .slice (some ⟨b, off, none⟩) l.length cap ∧ w.cell? ⟨b, off + k, none⟩ = some (.int .i64 l[k]) := by
  rcases h with ⟨_, h⟩ | ⟨⟨b, off, spot⟩, cap, h1, h2, h2', h3, h4⟩
  · subst h; simp at hk
  · have := h3 (by rintro rfl; simp at hk)
    simp only at this
    subst this
    refine ⟨b, off, cap, h1, ?_⟩
    have := h4 k l[k] (List.getElem?_eq_getElem hk)
    rwa [add_plain] at this
set_option maxHeartbeats 2000000 in
theorem ref_ints (a b : Value) (l m : List Int) (w : World) (ha : ILies w a l) (hb : ILies w b m) (hs : l.length ≤ 140737488351232) :
    Calls Try.prog 24 #[a, b] w fun e w' => e = .returned (.bool (l == m)) ∧ ∃ n, w' = w.drewN n := by
  obtain ⟨ao, ca, ea⟩ := ha.shape
  obtain ⟨bo, cb, eb⟩ := hb.shape
  subst ea
  subst eb
  have HX : Hid (∀ k (h1 : k < l.length) (h2 : k < m.length), ∃ b1 o1 b2 o2, ao = some ⟨b1, o1, none⟩ ∧ bo = some ⟨b2, o2, none⟩ ∧ w.cell? ⟨b1, o1 + k, none⟩ = some (.int .i64 l[k]) ∧ w.cell? ⟨b2, o2 + k, none⟩ = some (.int .i64 m[k])) := fun k h1 h2 => by
    obtain ⟨b1, o1, c1, e1, x1⟩ := ha.at h1
    obtain ⟨b2, o2, c2, e2, x2⟩ := hb.at h2
    cases e1
    cases e2
    exact ⟨b1, o1, b2, o2, rfl, rfl, x1, x2⟩
  clear ha hb
  by_cases hlen : l.length = m.length
  · have HR : Hid (∃ r, (l == m) = r) := ⟨_, rfl⟩
    obtain ⟨r, hr⟩ := HR.out
    clear HR
    rw [hr]
    have HRR : Hid ((l == m) = r) := hr
    clear hr
    have HLE : Hid (l.length = m.length) := hlen
    have HQ : Hid (∃ n, l.length = n) := ⟨_, rfl⟩
    rw [← hlen]
    clear hlen
    obtain ⟨n, hn⟩ := HQ.out
    clear HQ
    rw [hn] at hs ⊢
    have HNL : Hid (l.length = n) := hn
    clear hn
    go_enter Try.func24, Try.ntmps24
    go_wp2_with fail
    go_loopw [13] (fun i wr => ∃ k : Nat, k ≤ n ∧ i = .int .i64 k ∧ Hid (l.take k = m.take k) ∧ Hid (∃ q, wr = w.drewN q)) (fun i _ => n - (intOf i).toNat)
    case atStart => exact ⟨0, Nat.zero_le _, rfl, rfl, 0, rfl⟩
    case round =>
      obtain ⟨k, hk, rfl, HT, HW⟩ := hrel
      obtain ⟨q, rfl⟩ := HW.out
      by_cases hlt : k < n
      · have hk1 : k < l.length := by rw [HNL.out]; exact hlt
        have hk2 : k < m.length := by rw [← HLE.out]; exact hk1
        obtain ⟨b1, o1, b2, o2, rfl, rfl, x1, x2⟩ := HX.out k hk1 hk2
        have hlt2 : (k : Int) < (n : Int) := by omega
        have HS : Hid _ := list_split l m k hk1 hk2 HT.out
        have HTK : Hid (l[k] = m[k] → l.take (k + 1) = m.take (k + 1)) := fun e => by
          rw [List.take_succ_eq_append_getElem hk1, List.take_succ_eq_append_getElem hk2, HT.out, e]
        generalize l[k] = p at *
        generalize m[k] = p2 at *
        by_cases hpq : p = p2
        · have HPE : Hid (p = p2) := hpq
          have hne : (p != p2) = false := by rw [hpq]; simp
          clear hpq
          go_wp2_with fail
          go_quiet (fail)
          go_wp2_with fail
          go_roundw
          case rel => exact ⟨k + 1, by omega, by go_num, HTK.out HPE.out, _, rfl⟩
          case measure => simp [intOf]; omega
        · have hne : (p != p2) = true := by simpa using hpq
          have er : r = false := by rw [← HRR.out, HS.out]; simp [hpq]
          subst er
          clear hpq
          go_wp2_with fail
          go_quiet (fail)
          go_wp2_with fail
          go_ret
          exact ⟨rfl, q + _, (by rw [World.drewN_drewN])⟩
      · have hlt2 : ¬ (k : Int) < (n : Int) := by omega
        have er : r = true := by
          rw [← HRR.out]
          have hkn : k = n := by omega
          have h1 := HT.out
          rw [List.take_of_length_le (by rw [HNL.out]; omega), List.take_of_length_le (by rw [← HLE.out, HNL.out]; omega)] at h1
          rw [h1]; simp
        subst er
        go_wp2_with fail
        go_ret
        exact ⟨rfl, _, rfl⟩
  · have e : (l == m) = false := by
      rw [beq_eq_false_iff_ne]
      intro h; exact hlen (by rw [h])
    rw [e]
    have hne : ¬ (l.length : Int) = (m.length : Int) := by omega
    clear e HX hlen
    go_enter Try.func24, Try.ntmps24
    go_wp2_with fail
    go_ret
    exact ⟨rfl, 0, rfl⟩
set_option maxHeartbeats 4000000 in
theorem own_same (x : Cc) (L M : Value) (w : World) (hl : ILies w L x.args) (hm : ILies w M x.args) (hs : x.args.length ≤ 140737488351232) :
    Calls Try.prog 13 #[cval x L, cval x M] w fun e w' => e = .returned (.bool true) ∧ Below w.heap.size w w' := by
  have HI : Hid (∀ o1 o2, Calls Try.prog 24 #[L, M] ((w.alloc o1).alloc o2) fun e w' => e = .returned (.bool true) ∧ ∃ n, w' = ((w.alloc o1).alloc o2).drewN n) := fun o1 o2 => by
    have hb : Below w.heap.size w ((w.alloc o1).alloc o2) := ((Below.refl _ _).alloc (Nat.le_refl _) _).alloc (by simp) _
    have := ref_ints L M x.args x.args ((w.alloc o1).alloc o2) (hl.below hb (Nat.le_refl _)) (hm.below hb (Nat.le_refl _)) hs
    simpa using this
  obtain ⟨lo, lc, rfl⟩ := hl.shape
  obtain ⟨mo, mc, rfl⟩ := hm.shape
  clear hl hm
  unfold cval
  go_enter Try.func13, Try.ntmps13
  go_wp2_with fail
  refine Calls.mono (HI.out _ _) ?_
  rintro e w1 ⟨rfl, n, rfl⟩
  go_wp2_with fail
  all_goals go_ret
  exact ⟨rfl, (((Below.refl _ _).alloc (Nat.le_refl _) _).alloc (by simp) _).trans ((below_dn _ _).mono (by simp; omega))⟩
set_option maxHeartbeats 4000000 in
theorem own_sames (v v2 : Value) (es es2 : List Ce) (cs : List Cc) (w : World) (hv : CSrc w v es cs) (hv2 : CSrc w v2 es2 cs) (hc : ∀ c ∈ cs, c.args.length ≤ 140737488351232) (hz : cs.length ≤ 3518437208900) :
    Calls Try.prog 9 #[v, v2] w fun e w' => e = .returned (.bool true) ∧ Below w.heap.size w w' := by
  have hsz : es.length ≤ 3518437208900 := by rw [hv.len]; exact hz
  have HLE : Hid (es2.length = es.length) := by rw [hv.len, hv2.len]; exact rfl
  obtain ⟨lo, lc, rfl⟩ := hv.row.shape
  obtain ⟨mo, mc, rfl⟩ := hv2.row.shape
  have HX : Hid (∀ k (h1 : k < es.length) (h2 : k < es2.length), ∃ b1 o1 b2 o2, lo = some ⟨b1, o1, none⟩ ∧ mo = some ⟨b2, o2, none⟩ ∧ ∀ u, Below w.heap.size w u → (u.cell? ⟨b1, o1 + k * 3, none⟩ = some (.int .i64 es[k].x.site) ∧ u.cell? ⟨b1, o1 + k * 3 + 1, none⟩ = some (.int .i64 es[k].x.fn) ∧ u.cell? ⟨b1, o1 + k * 3 + 2, none⟩ = some es[k].L) ∧ (u.cell? ⟨b2, o2 + k * 3, none⟩ = some (.int .i64 es[k].x.site) ∧ u.cell? ⟨b2, o2 + k * 3 + 1, none⟩ = some (.int .i64 es[k].x.fn) ∧ u.cell? ⟨b2, o2 + k * 3 + 2, none⟩ = some es2[k].L)) := fun k h1 h2 => by
    obtain ⟨b1, o1, c1, e1, x0, x1, x2⟩ := hv.row.at h1
    obtain ⟨b2, o2, c2, e2, y0, y1, y2⟩ := hv2.row.at h2
    cases e1
    cases e2
    have he : es2[k].x = es[k].x := by rw [hv2.one h2 (by rw [← hv2.len]; exact h2), hv.one h1 (by rw [← hv.len]; exact h1)]
    rw [he] at y0 y1
    exact ⟨b1, o1, b2, o2, rfl, rfl, fun u hb => ⟨⟨by rw [hb.cell (World.block_lt_of_cell? _ _ x0)]; exact x0, by rw [hb.cell (World.block_lt_of_cell? _ _ x1)]; exact x1, by rw [hb.cell (World.block_lt_of_cell? _ _ x2)]; exact x2⟩, by rw [hb.cell (World.block_lt_of_cell? _ _ y0)]; exact y0, by rw [hb.cell (World.block_lt_of_cell? _ _ y1)]; exact y1, by rw [hb.cell (World.block_lt_of_cell? _ _ y2)]; exact y2⟩⟩
  have HC : Hid (∀ k (h1 : k < es.length) (h2 : k < es2.length) u, Below w.heap.size w u → Calls Try.prog 13 #[.agg #[.int .i64 es[k].x.site, .int .i64 es[k].x.fn, es[k].L], .agg #[.int .i64 es[k].x.site, .int .i64 es[k].x.fn, es2[k].L]] u fun e w' => e = .returned (.bool true) ∧ Below u.heap.size u w') := fun k h1 h2 u hb => by
    have he : es2[k].x = es[k].x := by rw [hv2.one h2 (by rw [← hv2.len]; exact h2), hv.one h1 (by rw [← hv.len]; exact h1)]
    have hl2 := hv2.lies es2[k] (List.getElem_mem h2)
    rw [he] at hl2
    have h3 : k < cs.length := by rw [← hv.len]; exact h1
    exact own_same es[k].x es[k].L es2[k].L u ((hv.lies es[k] (List.getElem_mem h1)).below hb (Nat.le_refl _)) (hl2.below hb (Nat.le_refl _)) (by rw [hv.one h1 h3]; exact hc _ (List.getElem_mem h3))
  clear hv hv2 hc
  rw [HLE.out]
  go_enter Try.func9, Try.ntmps9
  go_wp2_with fail
  go_loopw [5] (fun i wr => ∃ k : Nat, k ≤ es.length ∧ i = .int .i64 k ∧ Hid (Below w.heap.size w wr)) (fun i _ => es.length - (intOf i).toNat)
  case atStart => exact ⟨0, Nat.zero_le _, rfl, Below.refl _ _⟩
  case round =>
    obtain ⟨k, hk, rfl, HB⟩ := hrel
    by_cases hlt : k < es.length
    · have hlt3 : k < es2.length := by rw [HLE.out]; exact hlt
      obtain ⟨b1, o1, b2, o2, rfl, rfl, hx⟩ := HX.out k hlt hlt3
      have HXX : Hid _ := hx
      have HCC : Hid _ := HC.out k hlt hlt3
      have hlt2 : (k : Int) < (es.length : Int) := by omega
      clear hx HX HC
      generalize es[k].x.site = sk at *
      generalize es[k].x.fn = fk at *
      generalize es[k].L = Lk at *
      generalize es2[k].L = Mk at *
      obtain ⟨wq, hwq⟩ : ∃ x, wr = x := ⟨_, rfl⟩
      subst hwq
      go_wp2_with fail
      refine wp_grow [isV (.slice (some ⟨b1, o1, none⟩) es.length lc), isV (.int .i64 k), isV (.pointer (some ⟨b1, o1 + k * 3, none⟩)), isV (.agg #[.int .i64 sk, .int .i64 fk, Lk]), isV (.slice (some ⟨b2, o2, none⟩) es.length mc), isV (.int .i64 k), isV (.pointer (some ⟨b2, o2 + k * 3, none⟩)), isV (.agg #[.int .i64 sk, .int .i64 fk, Mk]), isV (.bool true), isV (.bool false)]
        ⟨stab_is _, stab_is _, stab_is _, stab_is _, stab_is _, stab_is _, stab_is _, stab_is _, stab_is _, stab_is _, trivial⟩ (by kernel_rfl) (by kernel_rfl) (by kernel_rfl) ?_ ?_
      · refine stepsOK_cons (fun f u hG hd K hK => ?_) (stepsOK_cons (fun f u hG hd K hK => ?_) (stepsOK_cons (fun f u hG hd K hK => ?_) (stepsOK_cons (fun f u hG hd K hK => ?_) (stepsOK_cons (fun f u hG hd K hK => ?_) (stepsOK_cons (fun f u hG hd K hK => ?_) (stepsOK_cons (fun f u hG hd K hK => ?_) (stepsOK_cons (fun f u hG hd K hK => ?_) (stepsOK_cons (fun f u hG hd K hK => ?_) (stepsOK_cons (fun f u hG hd K hK => ?_) stepsOK_nil)))))))))
        · refine wanted_on rfl ?_
          simp only [putAll, Act.put, List.setIfInBounds_toArray, List.set_cons_zero, List.set_cons_succ] at hK ⊢
          go_simp
          exact hK _ _ _ rfl hG (Below.refl _ _) rfl
        · refine wanted_on rfl ?_
          simp only [putAll, Act.put, List.setIfInBounds_toArray, List.set_cons_zero, List.set_cons_succ] at hK ⊢
          go_simp
          exact hK _ _ _ rfl hG (Below.refl _ _) rfl
        · have e0 : f 0 = (.slice (some ⟨b1, o1, none⟩) es.length lc) := hd 0 (by kernel_rfl)
          have e1 : f 1 = (.int .i64 k) := hd 1 (by kernel_rfl)
          refine wanted_on rfl ?_
          simp only [putAll, Act.put, List.setIfInBounds_toArray, List.set_cons_zero, List.set_cons_succ, e0, e1] at hK ⊢
          go_simp
          exact hK _ _ _ rfl hG (Below.refl _ _) rfl
        · have e2 : f 2 = (.pointer (some ⟨b1, o1 + k * 3, none⟩)) := hd 2 (by kernel_rfl)
          obtain ⟨⟨x0, x1, x2⟩, y0, y1, y2⟩ := HXX.out u (HB.out.trans (hG.mono HB.out.size))
          refine wanted_on rfl ?_
          simp only [putAll, Act.put, List.setIfInBounds_toArray, List.set_cons_zero, List.set_cons_succ, e2] at hK ⊢
          go_simp
          exact hK _ _ _ rfl hG (Below.refl _ _) rfl
        · refine wanted_on rfl ?_
          simp only [putAll, Act.put, List.setIfInBounds_toArray, List.set_cons_zero, List.set_cons_succ] at hK ⊢
          go_simp
          exact hK _ _ _ rfl hG (Below.refl _ _) rfl
        · refine wanted_on rfl ?_
          simp only [putAll, Act.put, List.setIfInBounds_toArray, List.set_cons_zero, List.set_cons_succ] at hK ⊢
          go_simp
          exact hK _ _ _ rfl hG (Below.refl _ _) rfl
        · have e4 : f 4 = (.slice (some ⟨b2, o2, none⟩) es.length mc) := hd 4 (by kernel_rfl)
          have e5 : f 5 = (.int .i64 k) := hd 5 (by kernel_rfl)
          refine wanted_on rfl ?_
          simp only [putAll, Act.put, List.setIfInBounds_toArray, List.set_cons_zero, List.set_cons_succ, e4, e5] at hK ⊢
          go_simp
          exact hK _ _ _ rfl hG (Below.refl _ _) rfl
        · have e6 : f 6 = (.pointer (some ⟨b2, o2 + k * 3, none⟩)) := hd 6 (by kernel_rfl)
          obtain ⟨⟨x0, x1, x2⟩, y0, y1, y2⟩ := HXX.out u (HB.out.trans (hG.mono HB.out.size))
          refine wanted_on rfl ?_
          simp only [putAll, Act.put, List.setIfInBounds_toArray, List.set_cons_zero, List.set_cons_succ, e6] at hK ⊢
          go_simp
          exact hK _ _ _ rfl hG (Below.refl _ _) rfl
        · have e3 : f 3 = (.agg #[.int .i64 sk, .int .i64 fk, Lk]) := hd 3 (by kernel_rfl)
          have e7 : f 7 = (.agg #[.int .i64 sk, .int .i64 fk, Mk]) := hd 7 (by kernel_rfl)
          refine wanted_on rfl ?_
          simp only [putAll, Act.put, List.setIfInBounds_toArray, List.set_cons_zero, List.set_cons_succ, e3, e7] at hK ⊢
          go_simp
          refine (HCC.out u (HB.out.trans (hG.mono HB.out.size))).mono ?_
          rintro e u1 ⟨rfl, hb⟩
          exact hK _ _ _ rfl (hG.trans (hb.mono hG.size)) hb rfl
        · have e8 : f 8 = (.bool true) := hd 8 (by kernel_rfl)
          refine wanted_on rfl ?_
          simp only [putAll, Act.put, List.setIfInBounds_toArray, List.set_cons_zero, List.set_cons_succ, e8] at hK ⊢
          go_simp
          exact hK _ _ _ rfl hG (Below.refl _ _) rfl
      · intro f u hG hf
        have e9 : f 9 = .bool false := hf 9 (by decide)
        simp only [putAll, Act.put, List.setIfInBounds_toArray, List.set_cons_zero, List.set_cons_succ, Nat.reduceAdd, e9]
        go_wp2_with fail
        go_roundw
        case rel => exact ⟨k + 1, by omega, by go_num, HB.out.trans (hG.mono HB.out.size)⟩
        case measure => simp [intOf]; omega
    · have hlt2 : ¬ (k : Int) < (es.length : Int) := by omega
      go_wp2_with fail
      go_ret
      exact ⟨rfl, HB.out⟩
end Go.Proofs.Ytiaoidbhdkldlaa
