/- Memory: calls that stayed as they were, the room behind them too. -/
import Derived.Test.YtiaoidbhdkldlabDmem4
namespace Go.Proofs.Ytiaoidbhdkldlab
open Go.ChangeShapes Go.WideShapes Go.ChangeAt Go.RowKit
set_option maxRecDepth 100000
set_option linter.unusedSimpArgs false
set_option linter.unusedVariables false
set_option maxHeartbeats 1500000 in
theorem own_stayedCalls (v : Value) (es : List Ce) (cs : List Cc) (A : Nat) (ks : List Ce) (w : World) (hv : CSrc w v es cs) (hc : COk cs) (hm : MA A ks w) (hk : ks.length = cs.length + 1) (hl : ks[cs.length]? = some ⟨⟨-4711, 0, []⟩, .slice none 0 0⟩) (hr : ∀ j c, cs[j]? = some c → RoomAt w c j ks) :
    Calls Try.prog 16 #[.slice (some ⟨A, 0, none⟩) cs.length (cs.length + 1), v] w fun e w' => e = .returned (.bool true) ∧ Below w.heap.size w w' := by
  obtain ⟨lo, lc, rfl⟩ := hv.row.shape
  have HX : Hid (∀ k (h1 : k < es.length), ∃ (b1 o1 : Nat) (c : Cc) (L : Value) (ao : Option Addr) (ac gg : Nat), lo = some ⟨b1, o1, none⟩ ∧ L = .slice ao c.args.length ac ∧ ∀ u, Below w.heap.size w u → (u.cell? ⟨b1, o1 + k * 3, none⟩ = some (.int .i64 c.site) ∧ u.cell? ⟨b1, o1 + k * 3 + 1, none⟩ = some (.int .i64 c.fn) ∧ u.cell? ⟨b1, o1 + k * 3 + 2, none⟩ = some L) ∧ (u.cell? ⟨A, k * 3, none⟩ = some (.int .i64 c.site) ∧ u.cell? ⟨A, k * 3 + 1, none⟩ = some (.int .i64 c.fn) ∧ u.cell? ⟨A, k * 3 + 2, none⟩ = some (.slice (some ⟨gg, 0, none⟩) c.args.length (c.args.length + 2))) ∧ Calls Try.prog 17 #[.slice (some ⟨gg, 0, none⟩) c.args.length (c.args.length + 2), L] u fun e w' => e = .returned (.bool true) ∧ Below u.heap.size u w') := fun k h1 => by
    obtain ⟨b1, o1, c1, e1, x0, x1, x2⟩ := hv.row.at h1
    cases e1
    have h2 : k < cs.length := by rw [← hv.len]; exact h1
    have h3 := hv.one h1 h2
    have hli := hv.lies es[k] (List.getElem_mem h1)
    rw [h3] at x0 x1 hli
    have hs := (hc.each cs[k] (List.getElem_mem h2)).sz
    obtain ⟨gg, hkk, hroom⟩ := hr k cs[k] (List.getElem?_eq_getElem h2)
    obtain ⟨ao, ac, hL⟩ := hli.shape
    refine ⟨b1, o1, cs[k], es[k].L, ao, ac, gg, rfl, hL, fun u hb => ⟨⟨by rw [hb.cell (World.block_lt_of_cell? _ _ x0)]; exact x0, by rw [hb.cell (World.block_lt_of_cell? _ _ x1)]; exact x1, by rw [hb.cell (World.block_lt_of_cell? _ _ x2)]; exact x2⟩, ((hm.below hb).cells hkk).1, ?_⟩⟩
    refine (own_stayed cs[k].args es[k].L gg u (hli.below hb (Nat.le_refl _)) (room_below hb _ _ hroom) (by omega)).mono ?_
    rintro e w' ⟨rfl, q, rfl⟩
    exact ⟨rfl, below_dn _ _⟩
  have c0 : w.cell? ⟨A, cs.length * 3, none⟩ = some (.int .i64 (-4711)) := (hm.cells hl).1.1
  have HLE : Hid (es.length = cs.length) := hv.len
  have hz : cs.length ≤ 3518437208800 := hc.size
  rw [← hv.len] at c0 hz ⊢
  clear hv hc hm hk hl hr
  have hlt0 : (es.length : Int) < (es.length : Int) + 1 := by omega
  go_enter Try.func16, Try.ntmps16
  go_wp2_with fail
  go_loopw [5] (fun i wr => ∃ k : Nat, k ≤ es.length ∧ i = .int .i64 k ∧ Hid (Below w.heap.size w wr)) (fun i _ => es.length - (intOf i).toNat)
  case atStart => exact ⟨0, Nat.zero_le _, rfl, Below.refl _ _⟩
  case round =>
    obtain ⟨k, hk, rfl, HB⟩ := hrel
    by_cases hlt : k < es.length
    · obtain ⟨b1, o1, c, L, ao, ac, gg, rfl, rfl, hx⟩ := HX.out k hlt
      have HXX : Hid _ := hx
      have hlt2 : (k : Int) < (es.length : Int) := by omega
      clear hx c0
      obtain ⟨wq, hwq⟩ : ∃ x, wr = x := ⟨_, rfl⟩
      subst hwq
      go_wp2_with fail
      refine wp_grow [isV (.slice (some ⟨A, 0, none⟩) es.length (es.length + 1)), isV (.int .i64 k), isV (.pointer (some ⟨A, k * 3, none⟩)), isV (.pointer (some ⟨A, k * 3, none⟩)), isV (.int .i64 c.site), isV (.slice (some ⟨b1, o1, none⟩) es.length lc), isV (.int .i64 k), isV (.pointer (some ⟨b1, o1 + k * 3, none⟩)), isV (.pointer (some ⟨b1, o1 + k * 3, none⟩)), isV (.int .i64 c.site), isV (.bool false), isV (.bool false), isV (.slice (some ⟨A, 0, none⟩) es.length (es.length + 1)), isV (.int .i64 k), isV (.pointer (some ⟨A, k * 3, none⟩)), isV (.pointer (some ⟨A, k * 3 + 1, none⟩)), isV (.int .i64 c.fn), isV (.slice (some ⟨b1, o1, none⟩) es.length lc), isV (.int .i64 k), isV (.pointer (some ⟨b1, o1 + k * 3, none⟩)), isV (.pointer (some ⟨b1, o1 + k * 3 + 1, none⟩)), isV (.int .i64 c.fn), isV (.bool false), isV (.bool false), isV (.bool false), isV (.slice (some ⟨A, 0, none⟩) es.length (es.length + 1)), isV (.int .i64 k), isV (.pointer (some ⟨A, k * 3, none⟩)), isV (.pointer (some ⟨A, k * 3 + 2, none⟩)), isV (.slice (some ⟨gg, 0, none⟩) c.args.length (c.args.length + 2)), isV (.slice (some ⟨b1, o1, none⟩) es.length lc), isV (.int .i64 k), isV (.pointer (some ⟨b1, o1 + k * 3, none⟩)), isV (.pointer (some ⟨b1, o1 + k * 3 + 2, none⟩)), isV (.slice ao c.args.length ac), isV (.bool true), isV (.bool false), isV (.bool false)]
        ⟨stab_is _, stab_is _, stab_is _, stab_is _, stab_is _, stab_is _, stab_is _, stab_is _, stab_is _, stab_is _, stab_is _, stab_is _, stab_is _, stab_is _, stab_is _, stab_is _, stab_is _, stab_is _, stab_is _, stab_is _, stab_is _, stab_is _, stab_is _, stab_is _, stab_is _, stab_is _, stab_is _, stab_is _, stab_is _, stab_is _, stab_is _, stab_is _, stab_is _, stab_is _, stab_is _, stab_is _, stab_is _, stab_is _, trivial⟩ (by kernel_rfl) (by kernel_rfl) (by kernel_rfl) ?_ ?_
      · refine stepsOK_cons (fun f u hG hd K hK => ?_) (stepsOK_cons (fun f u hG hd K hK => ?_) (stepsOK_cons (fun f u hG hd K hK => ?_) (stepsOK_cons (fun f u hG hd K hK => ?_) (stepsOK_cons (fun f u hG hd K hK => ?_) (stepsOK_cons (fun f u hG hd K hK => ?_) (stepsOK_cons (fun f u hG hd K hK => ?_) (stepsOK_cons (fun f u hG hd K hK => ?_) (stepsOK_cons (fun f u hG hd K hK => ?_) (stepsOK_cons (fun f u hG hd K hK => ?_) (stepsOK_cons (fun f u hG hd K hK => ?_) (stepsOK_cons (fun f u hG hd K hK => ?_) (stepsOK_cons (fun f u hG hd K hK => ?_) (stepsOK_cons (fun f u hG hd K hK => ?_) (stepsOK_cons (fun f u hG hd K hK => ?_) (stepsOK_cons (fun f u hG hd K hK => ?_) (stepsOK_cons (fun f u hG hd K hK => ?_) (stepsOK_cons (fun f u hG hd K hK => ?_) (stepsOK_cons (fun f u hG hd K hK => ?_) (stepsOK_cons (fun f u hG hd K hK => ?_) (stepsOK_cons (fun f u hG hd K hK => ?_) (stepsOK_cons (fun f u hG hd K hK => ?_) (stepsOK_cons (fun f u hG hd K hK => ?_) (stepsOK_cons (fun f u hG hd K hK => ?_) (stepsOK_cons (fun f u hG hd K hK => ?_) (stepsOK_cons (fun f u hG hd K hK => ?_) (stepsOK_cons (fun f u hG hd K hK => ?_) (stepsOK_cons (fun f u hG hd K hK => ?_) (stepsOK_cons (fun f u hG hd K hK => ?_) (stepsOK_cons (fun f u hG hd K hK => ?_) (stepsOK_cons (fun f u hG hd K hK => ?_) (stepsOK_cons (fun f u hG hd K hK => ?_) (stepsOK_cons (fun f u hG hd K hK => ?_) (stepsOK_cons (fun f u hG hd K hK => ?_) (stepsOK_cons (fun f u hG hd K hK => ?_) (stepsOK_cons (fun f u hG hd K hK => ?_) (stepsOK_cons (fun f u hG hd K hK => ?_) (stepsOK_cons (fun f u hG hd K hK => ?_) stepsOK_nil)))))))))))))))))))))))))))))))))))))
        · refine wanted_on rfl ?_
          simp only [putAll, Act.put, List.setIfInBounds_toArray, List.set_cons_zero, List.set_cons_succ] at hK ⊢
          go_simp
          exact hK _ _ _ rfl hG (Below.refl _ _) rfl
        · refine wanted_on rfl ?_
          simp only [putAll, Act.put, List.setIfInBounds_toArray, List.set_cons_zero, List.set_cons_succ] at hK ⊢
          go_simp
          exact hK _ _ _ rfl hG (Below.refl _ _) rfl
        · have e0 : f 0 = (.slice (some ⟨A, 0, none⟩) es.length (es.length + 1)) := hd 0 (by kernel_rfl)
          have e1 : f 1 = (.int .i64 k) := hd 1 (by kernel_rfl)
          refine wanted_on rfl ?_
          simp only [putAll, Act.put, List.setIfInBounds_toArray, List.set_cons_zero, List.set_cons_succ, e0, e1] at hK ⊢
          go_simp
          exact hK _ _ _ rfl hG (Below.refl _ _) rfl
        · have e2 : f 2 = (.pointer (some ⟨A, k * 3, none⟩)) := hd 2 (by kernel_rfl)
          refine wanted_on rfl ?_
          simp only [putAll, Act.put, List.setIfInBounds_toArray, List.set_cons_zero, List.set_cons_succ, e2] at hK ⊢
          go_simp
          exact hK _ _ _ rfl hG (Below.refl _ _) rfl
        · have e3 : f 3 = (.pointer (some ⟨A, k * 3, none⟩)) := hd 3 (by kernel_rfl)
          obtain ⟨⟨x0, x1, x2⟩, ⟨y0, y1, y2⟩, -⟩ := HXX.out u (HB.out.trans (hG.mono HB.out.size))
          refine wanted_on rfl ?_
          simp only [putAll, Act.put, List.setIfInBounds_toArray, List.set_cons_zero, List.set_cons_succ, e3] at hK ⊢
          go_simp
          exact hK _ _ _ rfl hG (Below.refl _ _) rfl
        · refine wanted_on rfl ?_
          simp only [putAll, Act.put, List.setIfInBounds_toArray, List.set_cons_zero, List.set_cons_succ] at hK ⊢
          go_simp
          exact hK _ _ _ rfl hG (Below.refl _ _) rfl
        · refine wanted_on rfl ?_
          simp only [putAll, Act.put, List.setIfInBounds_toArray, List.set_cons_zero, List.set_cons_succ] at hK ⊢
          go_simp
          exact hK _ _ _ rfl hG (Below.refl _ _) rfl
        · have e5 : f 5 = (.slice (some ⟨b1, o1, none⟩) es.length lc) := hd 5 (by kernel_rfl)
          have e6 : f 6 = (.int .i64 k) := hd 6 (by kernel_rfl)
          refine wanted_on rfl ?_
          simp only [putAll, Act.put, List.setIfInBounds_toArray, List.set_cons_zero, List.set_cons_succ, e5, e6] at hK ⊢
          go_simp
          exact hK _ _ _ rfl hG (Below.refl _ _) rfl
        · have e7 : f 7 = (.pointer (some ⟨b1, o1 + k * 3, none⟩)) := hd 7 (by kernel_rfl)
          refine wanted_on rfl ?_
          simp only [putAll, Act.put, List.setIfInBounds_toArray, List.set_cons_zero, List.set_cons_succ, e7] at hK ⊢
          go_simp
          exact hK _ _ _ rfl hG (Below.refl _ _) rfl
        · have e8 : f 8 = (.pointer (some ⟨b1, o1 + k * 3, none⟩)) := hd 8 (by kernel_rfl)
          obtain ⟨⟨x0, x1, x2⟩, ⟨y0, y1, y2⟩, -⟩ := HXX.out u (HB.out.trans (hG.mono HB.out.size))
          refine wanted_on rfl ?_
          simp only [putAll, Act.put, List.setIfInBounds_toArray, List.set_cons_zero, List.set_cons_succ, e8] at hK ⊢
          go_simp
          exact hK _ _ _ rfl hG (Below.refl _ _) rfl
        · have e4 : f 4 = (.int .i64 c.site) := hd 4 (by kernel_rfl)
          have e9 : f 9 = (.int .i64 c.site) := hd 9 (by kernel_rfl)
          refine wanted_on rfl ?_
          simp only [putAll, Act.put, List.setIfInBounds_toArray, List.set_cons_zero, List.set_cons_succ, e4, e9] at hK ⊢
          go_simp
          exact hK _ _ _ rfl hG (Below.refl _ _) (by simp [isV, atR])
        · have e10 : f 10 = (.bool false) := hd 10 (by kernel_rfl)
          refine wanted_on rfl ?_
          simp only [putAll, Act.put, List.setIfInBounds_toArray, List.set_cons_zero, List.set_cons_succ, e10] at hK ⊢
          go_simp
          exact hK _ _ _ rfl hG (Below.refl _ _) rfl
        · have e11 : f 11 = (.bool false) := hd 11 (by kernel_rfl)
          refine wanted_on (by simp [Region.wanted, yielded, putAll, Act.put, List.setIfInBounds_toArray, List.set_cons_zero, List.set_cons_succ, e11]) ?_
          simp only [putAll, Act.put, List.setIfInBounds_toArray, List.set_cons_zero, List.set_cons_succ, e11] at hK ⊢
          go_simp
          exact hK _ _ _ rfl hG (Below.refl _ _) rfl
        · have e11 : f 11 = (.bool false) := hd 11 (by kernel_rfl)
          refine wanted_on (by simp [Region.wanted, yielded, putAll, Act.put, List.setIfInBounds_toArray, List.set_cons_zero, List.set_cons_succ, e11]) ?_
          simp only [putAll, Act.put, List.setIfInBounds_toArray, List.set_cons_zero, List.set_cons_succ, e11] at hK ⊢
          go_simp
          exact hK _ _ _ rfl hG (Below.refl _ _) rfl
        · have e11 : f 11 = (.bool false) := hd 11 (by kernel_rfl)
          have e12 : f 12 = (.slice (some ⟨A, 0, none⟩) es.length (es.length + 1)) := hd 12 (by kernel_rfl)
          have e13 : f 13 = (.int .i64 k) := hd 13 (by kernel_rfl)
          refine wanted_on (by simp [Region.wanted, yielded, putAll, Act.put, List.setIfInBounds_toArray, List.set_cons_zero, List.set_cons_succ, e11, e12, e13]) ?_
          simp only [putAll, Act.put, List.setIfInBounds_toArray, List.set_cons_zero, List.set_cons_succ, e11, e12, e13] at hK ⊢
          go_simp
          exact hK _ _ _ rfl hG (Below.refl _ _) rfl
        · have e11 : f 11 = (.bool false) := hd 11 (by kernel_rfl)
          have e14 : f 14 = (.pointer (some ⟨A, k * 3, none⟩)) := hd 14 (by kernel_rfl)
          refine wanted_on (by simp [Region.wanted, yielded, putAll, Act.put, List.setIfInBounds_toArray, List.set_cons_zero, List.set_cons_succ, e11, e14]) ?_
          simp only [putAll, Act.put, List.setIfInBounds_toArray, List.set_cons_zero, List.set_cons_succ, e11, e14] at hK ⊢
          go_simp
          exact hK _ _ _ rfl hG (Below.refl _ _) rfl
        · have e11 : f 11 = (.bool false) := hd 11 (by kernel_rfl)
          have e15 : f 15 = (.pointer (some ⟨A, k * 3 + 1, none⟩)) := hd 15 (by kernel_rfl)
          obtain ⟨⟨x0, x1, x2⟩, ⟨y0, y1, y2⟩, -⟩ := HXX.out u (HB.out.trans (hG.mono HB.out.size))
          refine wanted_on (by simp [Region.wanted, yielded, putAll, Act.put, List.setIfInBounds_toArray, List.set_cons_zero, List.set_cons_succ, e11, e15]) ?_
          simp only [putAll, Act.put, List.setIfInBounds_toArray, List.set_cons_zero, List.set_cons_succ, e11, e15] at hK ⊢
          go_simp
          exact hK _ _ _ rfl hG (Below.refl _ _) rfl
        · have e11 : f 11 = (.bool false) := hd 11 (by kernel_rfl)
          refine wanted_on (by simp [Region.wanted, yielded, putAll, Act.put, List.setIfInBounds_toArray, List.set_cons_zero, List.set_cons_succ, e11]) ?_
          simp only [putAll, Act.put, List.setIfInBounds_toArray, List.set_cons_zero, List.set_cons_succ, e11] at hK ⊢
          go_simp
          exact hK _ _ _ rfl hG (Below.refl _ _) rfl
        · have e11 : f 11 = (.bool false) := hd 11 (by kernel_rfl)
          refine wanted_on (by simp [Region.wanted, yielded, putAll, Act.put, List.setIfInBounds_toArray, List.set_cons_zero, List.set_cons_succ, e11]) ?_
          simp only [putAll, Act.put, List.setIfInBounds_toArray, List.set_cons_zero, List.set_cons_succ, e11] at hK ⊢
          go_simp
          exact hK _ _ _ rfl hG (Below.refl _ _) rfl
        · have e11 : f 11 = (.bool false) := hd 11 (by kernel_rfl)
          have e17 : f 17 = (.slice (some ⟨b1, o1, none⟩) es.length lc) := hd 17 (by kernel_rfl)
          have e18 : f 18 = (.int .i64 k) := hd 18 (by kernel_rfl)
          refine wanted_on (by simp [Region.wanted, yielded, putAll, Act.put, List.setIfInBounds_toArray, List.set_cons_zero, List.set_cons_succ, e11, e17, e18]) ?_
          simp only [putAll, Act.put, List.setIfInBounds_toArray, List.set_cons_zero, List.set_cons_succ, e11, e17, e18] at hK ⊢
          go_simp
          exact hK _ _ _ rfl hG (Below.refl _ _) rfl
        · have e11 : f 11 = (.bool false) := hd 11 (by kernel_rfl)
          have e19 : f 19 = (.pointer (some ⟨b1, o1 + k * 3, none⟩)) := hd 19 (by kernel_rfl)
          refine wanted_on (by simp [Region.wanted, yielded, putAll, Act.put, List.setIfInBounds_toArray, List.set_cons_zero, List.set_cons_succ, e11, e19]) ?_
          simp only [putAll, Act.put, List.setIfInBounds_toArray, List.set_cons_zero, List.set_cons_succ, e11, e19] at hK ⊢
          go_simp
          exact hK _ _ _ rfl hG (Below.refl _ _) rfl
        · have e11 : f 11 = (.bool false) := hd 11 (by kernel_rfl)
          have e20 : f 20 = (.pointer (some ⟨b1, o1 + k * 3 + 1, none⟩)) := hd 20 (by kernel_rfl)
          obtain ⟨⟨x0, x1, x2⟩, ⟨y0, y1, y2⟩, -⟩ := HXX.out u (HB.out.trans (hG.mono HB.out.size))
          refine wanted_on (by simp [Region.wanted, yielded, putAll, Act.put, List.setIfInBounds_toArray, List.set_cons_zero, List.set_cons_succ, e11, e20]) ?_
          simp only [putAll, Act.put, List.setIfInBounds_toArray, List.set_cons_zero, List.set_cons_succ, e11, e20] at hK ⊢
          go_simp
          exact hK _ _ _ rfl hG (Below.refl _ _) rfl
        · have e11 : f 11 = (.bool false) := hd 11 (by kernel_rfl)
          have e16 : f 16 = (.int .i64 c.fn) := hd 16 (by kernel_rfl)
          have e21 : f 21 = (.int .i64 c.fn) := hd 21 (by kernel_rfl)
          refine wanted_on (by simp [Region.wanted, yielded, putAll, Act.put, List.setIfInBounds_toArray, List.set_cons_zero, List.set_cons_succ, e11, e16, e21]) ?_
          simp only [putAll, Act.put, List.setIfInBounds_toArray, List.set_cons_zero, List.set_cons_succ, e11, e16, e21] at hK ⊢
          go_simp
          exact hK _ _ _ rfl hG (Below.refl _ _) (by simp [isV, atR])
        · have e11 : f 11 = (.bool false) := hd 11 (by kernel_rfl)
          have e22 : f 22 = (.bool false) := hd 22 (by kernel_rfl)
          refine wanted_on rfl ?_
          simp only [putAll, Act.put, List.setIfInBounds_toArray, List.set_cons_zero, List.set_cons_succ, e11, e22] at hK ⊢
          go_simp
          exact hK _ _ _ rfl hG (Below.refl _ _) rfl
        · have e23 : f 23 = (.bool false) := hd 23 (by kernel_rfl)
          refine wanted_on rfl ?_
          simp only [putAll, Act.put, List.setIfInBounds_toArray, List.set_cons_zero, List.set_cons_succ, e23] at hK ⊢
          go_simp
          exact hK _ _ _ rfl hG (Below.refl _ _) rfl
        · have e24 : f 24 = (.bool false) := hd 24 (by kernel_rfl)
          refine wanted_on (by simp [Region.wanted, yielded, putAll, Act.put, List.setIfInBounds_toArray, List.set_cons_zero, List.set_cons_succ, e24]) ?_
          simp only [putAll, Act.put, List.setIfInBounds_toArray, List.set_cons_zero, List.set_cons_succ, e24] at hK ⊢
          go_simp
          exact hK _ _ _ rfl hG (Below.refl _ _) rfl
        · have e24 : f 24 = (.bool false) := hd 24 (by kernel_rfl)
          refine wanted_on (by simp [Region.wanted, yielded, putAll, Act.put, List.setIfInBounds_toArray, List.set_cons_zero, List.set_cons_succ, e24]) ?_
          simp only [putAll, Act.put, List.setIfInBounds_toArray, List.set_cons_zero, List.set_cons_succ, e24] at hK ⊢
          go_simp
          exact hK _ _ _ rfl hG (Below.refl _ _) rfl
        · have e24 : f 24 = (.bool false) := hd 24 (by kernel_rfl)
          have e25 : f 25 = (.slice (some ⟨A, 0, none⟩) es.length (es.length + 1)) := hd 25 (by kernel_rfl)
          have e26 : f 26 = (.int .i64 k) := hd 26 (by kernel_rfl)
          refine wanted_on (by simp [Region.wanted, yielded, putAll, Act.put, List.setIfInBounds_toArray, List.set_cons_zero, List.set_cons_succ, e24, e25, e26]) ?_
          simp only [putAll, Act.put, List.setIfInBounds_toArray, List.set_cons_zero, List.set_cons_succ, e24, e25, e26] at hK ⊢
          go_simp
          exact hK _ _ _ rfl hG (Below.refl _ _) rfl
        · have e24 : f 24 = (.bool false) := hd 24 (by kernel_rfl)
          have e27 : f 27 = (.pointer (some ⟨A, k * 3, none⟩)) := hd 27 (by kernel_rfl)
          refine wanted_on (by simp [Region.wanted, yielded, putAll, Act.put, List.setIfInBounds_toArray, List.set_cons_zero, List.set_cons_succ, e24, e27]) ?_
          simp only [putAll, Act.put, List.setIfInBounds_toArray, List.set_cons_zero, List.set_cons_succ, e24, e27] at hK ⊢
          go_simp
          exact hK _ _ _ rfl hG (Below.refl _ _) rfl
        · have e24 : f 24 = (.bool false) := hd 24 (by kernel_rfl)
          have e28 : f 28 = (.pointer (some ⟨A, k * 3 + 2, none⟩)) := hd 28 (by kernel_rfl)
          obtain ⟨⟨x0, x1, x2⟩, ⟨y0, y1, y2⟩, -⟩ := HXX.out u (HB.out.trans (hG.mono HB.out.size))
          refine wanted_on (by simp [Region.wanted, yielded, putAll, Act.put, List.setIfInBounds_toArray, List.set_cons_zero, List.set_cons_succ, e24, e28]) ?_
          simp only [putAll, Act.put, List.setIfInBounds_toArray, List.set_cons_zero, List.set_cons_succ, e24, e28] at hK ⊢
          go_simp
          exact hK _ _ _ rfl hG (Below.refl _ _) rfl
        · have e24 : f 24 = (.bool false) := hd 24 (by kernel_rfl)
          refine wanted_on (by simp [Region.wanted, yielded, putAll, Act.put, List.setIfInBounds_toArray, List.set_cons_zero, List.set_cons_succ, e24]) ?_
          simp only [putAll, Act.put, List.setIfInBounds_toArray, List.set_cons_zero, List.set_cons_succ, e24] at hK ⊢
          go_simp
          exact hK _ _ _ rfl hG (Below.refl _ _) rfl
        · have e24 : f 24 = (.bool false) := hd 24 (by kernel_rfl)
          refine wanted_on (by simp [Region.wanted, yielded, putAll, Act.put, List.setIfInBounds_toArray, List.set_cons_zero, List.set_cons_succ, e24]) ?_
          simp only [putAll, Act.put, List.setIfInBounds_toArray, List.set_cons_zero, List.set_cons_succ, e24] at hK ⊢
          go_simp
          exact hK _ _ _ rfl hG (Below.refl _ _) rfl
        · have e24 : f 24 = (.bool false) := hd 24 (by kernel_rfl)
          have e30 : f 30 = (.slice (some ⟨b1, o1, none⟩) es.length lc) := hd 30 (by kernel_rfl)
          have e31 : f 31 = (.int .i64 k) := hd 31 (by kernel_rfl)
          refine wanted_on (by simp [Region.wanted, yielded, putAll, Act.put, List.setIfInBounds_toArray, List.set_cons_zero, List.set_cons_succ, e24, e30, e31]) ?_
          simp only [putAll, Act.put, List.setIfInBounds_toArray, List.set_cons_zero, List.set_cons_succ, e24, e30, e31] at hK ⊢
          go_simp
          exact hK _ _ _ rfl hG (Below.refl _ _) rfl
        · have e24 : f 24 = (.bool false) := hd 24 (by kernel_rfl)
          have e32 : f 32 = (.pointer (some ⟨b1, o1 + k * 3, none⟩)) := hd 32 (by kernel_rfl)
          refine wanted_on (by simp [Region.wanted, yielded, putAll, Act.put, List.setIfInBounds_toArray, List.set_cons_zero, List.set_cons_succ, e24, e32]) ?_
          simp only [putAll, Act.put, List.setIfInBounds_toArray, List.set_cons_zero, List.set_cons_succ, e24, e32] at hK ⊢
          go_simp
          exact hK _ _ _ rfl hG (Below.refl _ _) rfl
        · have e24 : f 24 = (.bool false) := hd 24 (by kernel_rfl)
          have e33 : f 33 = (.pointer (some ⟨b1, o1 + k * 3 + 2, none⟩)) := hd 33 (by kernel_rfl)
          obtain ⟨⟨x0, x1, x2⟩, ⟨y0, y1, y2⟩, -⟩ := HXX.out u (HB.out.trans (hG.mono HB.out.size))
          refine wanted_on (by simp [Region.wanted, yielded, putAll, Act.put, List.setIfInBounds_toArray, List.set_cons_zero, List.set_cons_succ, e24, e33]) ?_
          simp only [putAll, Act.put, List.setIfInBounds_toArray, List.set_cons_zero, List.set_cons_succ, e24, e33] at hK ⊢
          go_simp
          exact hK _ _ _ rfl hG (Below.refl _ _) rfl
        · have e24 : f 24 = (.bool false) := hd 24 (by kernel_rfl)
          have e29 : f 29 = (.slice (some ⟨gg, 0, none⟩) c.args.length (c.args.length + 2)) := hd 29 (by kernel_rfl)
          have e34 : f 34 = (.slice ao c.args.length ac) := hd 34 (by kernel_rfl)
          refine wanted_on (by simp [Region.wanted, yielded, putAll, Act.put, List.setIfInBounds_toArray, List.set_cons_zero, List.set_cons_succ, e24, e29, e34]) ?_
          simp only [putAll, Act.put, List.setIfInBounds_toArray, List.set_cons_zero, List.set_cons_succ, e24, e29, e34] at hK ⊢
          go_simp
          refine ((HXX.out u (HB.out.trans (hG.mono HB.out.size))).2.2).mono ?_
          rintro e u1 ⟨rfl, hb⟩
          exact hK _ _ _ rfl (hG.trans (hb.mono hG.size)) hb rfl
        · have e24 : f 24 = (.bool false) := hd 24 (by kernel_rfl)
          have e35 : f 35 = (.bool true) := hd 35 (by kernel_rfl)
          refine wanted_on (by simp [Region.wanted, yielded, putAll, Act.put, List.setIfInBounds_toArray, List.set_cons_zero, List.set_cons_succ, e24, e35]) ?_
          simp only [putAll, Act.put, List.setIfInBounds_toArray, List.set_cons_zero, List.set_cons_succ, e24, e35] at hK ⊢
          go_simp
          exact hK _ _ _ rfl hG (Below.refl _ _) rfl
        · have e24 : f 24 = (.bool false) := hd 24 (by kernel_rfl)
          have e36 : f 36 = (.bool false) := hd 36 (by kernel_rfl)
          refine wanted_on rfl ?_
          simp only [putAll, Act.put, List.setIfInBounds_toArray, List.set_cons_zero, List.set_cons_succ, e24, e36] at hK ⊢
          go_simp
          exact hK _ _ _ rfl hG (Below.refl _ _) rfl
      · intro f u hG hf
        have e37 : f 37 = .bool false := hf 37 (by decide)
        simp only [putAll, Act.put, List.setIfInBounds_toArray, List.set_cons_zero, List.set_cons_succ, Nat.reduceAdd, e37]
        go_wp2_with fail
        go_roundw
        case rel => exact ⟨k + 1, by omega, by go_num, HB.out.trans (hG.mono HB.out.size)⟩
        case measure => first | (simp [intOf]; done) | (simp [intOf]; omega)
    · have hlt2 : ¬ (k : Int) < (es.length : Int) := by omega
      go_wp2_with fail
      go_ret
      exact ⟨rfl, HB.out⟩
end Go.Proofs.Ytiaoidbhdkldlab
