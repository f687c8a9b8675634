/- What the reference shows of a value: the walk. -/
import Derived.Test.YtncjaohiimenaaaDoorVrshow0
namespace Go.Proofs.YtncjaohiimenaaaDoor
open Go.ChangeShapes Go.WideShapes Go.ChangeAt Go.RowKit
set_option maxRecDepth 100000
set_option linter.unusedSimpArgs false
set_option linter.unusedVariables false

set_option maxHeartbeats 8000000 in
theorem ref_show (x : Vv) (L : Value) (w : World) (hi : VIn x) (hm : ILies w L x.l) (hz : x.kind = 6 → x.l.length ≤ 1099511627776) :
    Calls Tryd.prog 21 #[vval x L] w fun e w' => e = .returned (.string (showV x)) ∧ Below w.heap.size w w' := by
  have HIA : Hid (∀ d : Nat → Bool, (∀ i, i < 16 → d i = true) → ¬ x.kind = 2 → ¬ x.kind = 6 → (insOf (txt x.n) x.s d x.kind).getD (.string ⟨#[]⟩) = .string (showV x)) := fun d h h2 h6 => ins_all x d h h2 h6
  have HD0 : Hid (∀ u, Calls Tryd.prog 25 #[.int .i64 x.n] u fun e w' => e = .returned (.string (txt x.n)) ∧ Below u.heap.size u w') := fun u => by
    have hb := i64_bounds hi.wn
    exact decimal_any x.n hb.1 hb.2 u
  obtain ⟨lo, lc, hL⟩ := hm.shape
  subst hL
  have HLA : Hid (∀ k (h1 : k < x.l.length), ∃ b1 o1, lo = some ⟨b1, o1, none⟩ ∧ ∀ u, Below w.heap.size w u → u.cell? ⟨b1, o1 + k, none⟩ = some (.int .i64 x.l[k])) := fun k h1 => by
    obtain ⟨b1, o1, c1, e1, x1⟩ := hm.at h1
    cases e1
    exact ⟨b1, o1, rfl, fun u hb => by rw [hb.cell (World.block_lt_of_cell? _ _ x1)]; exact x1⟩
  have HDL : Hid (∀ k (h1 : k < x.l.length) u, Calls Tryd.prog 25 #[.int .i64 x.l[k]] u fun e w' => e = .returned (.string (txt x.l[k])) ∧ Below u.heap.size u w') := fun k h1 u => by
    have hb2 := i64_bounds (hi.wl x.l[k] (List.getElem_mem h1))
    exact decimal_any x.l[k] hb2.1 hb2.2 u
  have HAS : Hid (∀ k, (accB x.l k).size ≤ 1 + 22 * x.l.length) := fun k => accB_size x.l k hi.wl
  have HTS : Hid (∀ k (h1 : k < x.l.length), (txt x.l[k]).size ≤ 21) := fun k h1 => by
    have hb2 := i64_bounds (hi.wl x.l[k] (List.getElem_mem h1))
    have := Lib.itoa_length_le x.l[k] hb2.1 hb2.2
    show (Lib.itoa x.l[k]).toArray.size ≤ 21
    rw [List.size_toArray]; exact this
  have HS6 : Hid (x.kind = 6 → showV x = accB x.l x.l.length ++ ⟨#[93]⟩) := fun h => by rw [accB_all]; simp [showV, h]
  have HS2 : Hid (x.kind = 2 → showV x = if x.n = 0 then ⟨#[102, 97, 108, 115, 101]⟩ else ⟨#[116, 114, 117, 101]⟩) := fun h => by simp [showV, h, showB]
  clear hi hm
  have HTX : Hid (∃ t, txt x.n = t) := ⟨_, rfl⟩
  obtain ⟨t, ht⟩ := HTX.out
  clear HTX
  have HIA2 : Hid (∀ d : Nat → Bool, (∀ i, i < 16 → d i = true) → ¬ x.kind = 2 → ¬ x.kind = 6 → (insOf t x.s d x.kind).getD (.string ⟨#[]⟩) = .string (showV x)) := by rw [← ht]; exact HIA.out
  have HD : Hid (∀ u, Calls Tryd.prog 25 #[.int .i64 x.n] u fun e w' => e = .returned (.string t) ∧ Below u.heap.size u w') := by rw [← ht]; exact HD0.out
  clear ht HIA HD0
  generalize showV x = S at *
  unfold vval
  go_enter Tryd.func21, Tryd.ntmps21
  go_wp2_with fail
  refine wp_steady3 (fun d f u => MapG (fun k v => match k with | 1 => v = .pointer (some ⟨w.heap.size, 1, none⟩) | 2 => v = .int .i64 x.n | 3 => v = .string t | 5 => v = .pointer (some ⟨w.heap.size, 2, none⟩) | 6 => v = .string x.s | 8 => v = .pointer (some ⟨w.heap.size, 2, none⟩) | 9 => v = .string x.s | _ => True) (insOf t x.s) w (.cells #[.int .i64 x.kind, .int .i64 x.n, .string x.s, .slice lo x.l.length lc] 24) d f u ∧ Two d f) (by kernel_rfl) (by kernel_rfl) (by kernel_rfl) (fun f => ⟨⟨box_stays ((Below.refl _ _).drew), show_below.drew, (fun k e => by cases e), (fun e => by cases e)⟩, (fun e => by cases e), (fun e => by cases e)⟩) ?_ ?_
  · refine stepsOK3_cons (fun f d u hG hn hd hno K hK => ?_) (stepsOK3_cons (fun f d u hG hn hd hno K hK => ?_) (stepsOK3_cons (fun f d u hG hn hd hno K hK => ?_) (stepsOK3_cons (fun f d u hG hn hd hno K hK => ?_) (stepsOK3_cons (fun f d u hG hn hd hno K hK => ?_) (stepsOK3_cons (fun f d u hG hn hd hno K hK => ?_) (stepsOK3_cons (fun f d u hG hn hd hno K hK => ?_) (stepsOK3_cons (fun f d u hG hn hd hno K hK => ?_) (stepsOK3_cons (fun f d u hG hn hd hno K hK => ?_) (stepsOK3_cons (fun f d u hG hn hd hno K hK => ?_) (stepsOK3_cons (fun f d u hG hn hd hno K hK => ?_) (stepsOK3_cons (fun f d u hG hn hd hno K hK => ?_) (stepsOK3_cons (fun f d u hG hn hd hno K hK => ?_) (stepsOK3_cons (fun f d u hG hn hd hno K hK => ?_) (stepsOK3_cons (fun f d u hG hn hd hno K hK => ?_) (stepsOK3_cons (fun f d u hG hn hd hno K hK => ?_) stepsOK3_nil)))))))))))))))
    · have h14 : d 14 = false := hno 14 (by kernel_rfl)
      have h15 : d 15 = false := hno 15 (by kernel_rfl)
      have hmm := @run_makeMap Tryd.prog
      refine wanted_on rfl ?_
      simp only [putAll, Act.put, List.setIfInBounds_toArray, List.set_cons_zero, List.set_cons_succ] at hK ⊢
      go_simp
      refine hK _ _ _ rfl ⟨hG.1.make trivial (by rw [ins_keep0]; exact ins_none _ _ _ ⟨hno 4 (by kernel_rfl), hno 7 (by kernel_rfl), hno 10 (by kernel_rfl), hno 11 (by kernel_rfl), hno 12 (by kernel_rfl), hno 13 (by kernel_rfl)⟩), ?_⟩
      exact ⟨fun e => (by rw [updB_ne' (by decide), h14] at e; cases e), fun e => (by rw [updB_ne' (by decide), h15] at e; cases e)⟩
    · refine wanted_on rfl ?_
      simp only [putAll, Act.put, List.setIfInBounds_toArray, List.set_cons_zero, List.set_cons_succ] at hK ⊢
      go_simp
      exact hK _ _ _ rfl ⟨hG.1.grow 1 (by decide) (ins_keep1 _ _ _) rfl (Below.refl _ _), hG.2.keep 1 _ (by decide) (by decide) (by decide)⟩
    · have e1 : f 1 = .pointer (some ⟨w.heap.size, 1, none⟩) := hG.1.vals 1 (hd 1 (by kernel_rfl))
      obtain ⟨⟨c0, c1, c2, c3⟩, _⟩ := box4 hG.1.box
      refine wanted_on rfl ?_
      simp only [putAll, Act.put, List.setIfInBounds_toArray, List.set_cons_zero, List.set_cons_succ, e1] at hK ⊢
      go_simp
      exact hK _ _ _ rfl ⟨hG.1.grow 2 (by decide) (ins_keep2 _ _ _) rfl (Below.refl _ _), hG.2.keep 2 _ (by decide) (by decide) (by decide)⟩
    · have e2 : f 2 = .int .i64 x.n := hG.1.vals 2 (hd 2 (by kernel_rfl))
      refine wanted_on rfl ?_
      simp only [putAll, Act.put, List.setIfInBounds_toArray, List.set_cons_zero, List.set_cons_succ, e2] at hK ⊢
      go_simp
      refine (HD.out u).mono ?_
      rintro e u1 ⟨rfl, hb⟩
      exact hK _ _ _ rfl ⟨hG.1.grow 3 (by decide) (ins_keep3 _ _ _) rfl hb, hG.2.keep 3 _ (by decide) (by decide) (by decide)⟩
    · have e3 : f 3 = .string t := hG.1.vals 3 (hd 3 (by kernel_rfl))
      obtain ⟨b, es, c, e0, hlt, hmap, hinv⟩ := hG.1.map (hd 0 (by kernel_rfl))
      have hin := insert_run (P := Tryd.prog) (T := 61) Tryd.underlying61 Tryd.underlying3 hmap 1 (.string t) (hinv.absent (ins_new4 _ _ _ hn))
      refine wanted_on rfl ?_
      simp only [putAll, Act.put, List.setIfInBounds_toArray, List.set_cons_zero, List.set_cons_succ, e0, e3] at hK ⊢
      go_simp
      exact hK _ undef _ rfl ⟨hG.1.insert 4 (by decide) e0 hlt hmap hinv (ins_new4 _ _ _ hn) (ins_upd4 _ _ _ hn) trivial, hG.2.keep 4 _ (by decide) (by decide) (by decide)⟩
    · refine wanted_on rfl ?_
      simp only [putAll, Act.put, List.setIfInBounds_toArray, List.set_cons_zero, List.set_cons_succ] at hK ⊢
      go_simp
      exact hK _ _ _ rfl ⟨hG.1.grow 5 (by decide) (ins_keep5 _ _ _) rfl (Below.refl _ _), hG.2.keep 5 _ (by decide) (by decide) (by decide)⟩
    · have e5 : f 5 = .pointer (some ⟨w.heap.size, 2, none⟩) := hG.1.vals 5 (hd 5 (by kernel_rfl))
      obtain ⟨⟨c0, c1, c2, c3⟩, _⟩ := box4 hG.1.box
      refine wanted_on rfl ?_
      simp only [putAll, Act.put, List.setIfInBounds_toArray, List.set_cons_zero, List.set_cons_succ, e5] at hK ⊢
      go_simp
      exact hK _ _ _ rfl ⟨hG.1.grow 6 (by decide) (ins_keep6 _ _ _) rfl (Below.refl _ _), hG.2.keep 6 _ (by decide) (by decide) (by decide)⟩
    · have e6 : f 6 = .string x.s := hG.1.vals 6 (hd 6 (by kernel_rfl))
      obtain ⟨b, es, c, e0, hlt, hmap, hinv⟩ := hG.1.map (hd 0 (by kernel_rfl))
      have hin := insert_run (P := Tryd.prog) (T := 61) Tryd.underlying61 Tryd.underlying3 hmap 3 (.string x.s) (hinv.absent (ins_new7 _ _ _ hn))
      refine wanted_on rfl ?_
      simp only [putAll, Act.put, List.setIfInBounds_toArray, List.set_cons_zero, List.set_cons_succ, e0, e6] at hK ⊢
      go_simp
      exact hK _ undef _ rfl ⟨hG.1.insert 7 (by decide) e0 hlt hmap hinv (ins_new7 _ _ _ hn) (ins_upd7 _ _ _ hn) trivial, hG.2.keep 7 _ (by decide) (by decide) (by decide)⟩
    · refine wanted_on rfl ?_
      simp only [putAll, Act.put, List.setIfInBounds_toArray, List.set_cons_zero, List.set_cons_succ] at hK ⊢
      go_simp
      exact hK _ _ _ rfl ⟨hG.1.grow 8 (by decide) (ins_keep8 _ _ _) rfl (Below.refl _ _), hG.2.keep 8 _ (by decide) (by decide) (by decide)⟩
    · have e8 : f 8 = .pointer (some ⟨w.heap.size, 2, none⟩) := hG.1.vals 8 (hd 8 (by kernel_rfl))
      obtain ⟨⟨c0, c1, c2, c3⟩, _⟩ := box4 hG.1.box
      refine wanted_on rfl ?_
      simp only [putAll, Act.put, List.setIfInBounds_toArray, List.set_cons_zero, List.set_cons_succ, e8] at hK ⊢
      go_simp
      exact hK _ _ _ rfl ⟨hG.1.grow 9 (by decide) (ins_keep9 _ _ _) rfl (Below.refl _ _), hG.2.keep 9 _ (by decide) (by decide) (by decide)⟩
    · have e9 : f 9 = .string x.s := hG.1.vals 9 (hd 9 (by kernel_rfl))
      obtain ⟨b, es, c, e0, hlt, hmap, hinv⟩ := hG.1.map (hd 0 (by kernel_rfl))
      have hin := insert_run (P := Tryd.prog) (T := 61) Tryd.underlying61 Tryd.underlying3 hmap 5 (.string x.s) (hinv.absent (ins_new10 _ _ _ hn))
      refine wanted_on rfl ?_
      simp only [putAll, Act.put, List.setIfInBounds_toArray, List.set_cons_zero, List.set_cons_succ, e0, e9] at hK ⊢
      go_simp
      exact hK _ undef _ rfl ⟨hG.1.insert 10 (by decide) e0 hlt hmap hinv (ins_new10 _ _ _ hn) (ins_upd10 _ _ _ hn) trivial, hG.2.keep 10 _ (by decide) (by decide) (by decide)⟩
    · obtain ⟨b, es, c, e0, hlt, hmap, hinv⟩ := hG.1.map (hd 0 (by kernel_rfl))
      have hin := insert_run (P := Tryd.prog) (T := 61) Tryd.underlying61 Tryd.underlying3 hmap 4 (.string ⟨#[110, 105, 108]⟩) (hinv.absent (ins_new11 _ _ _ hn))
      refine wanted_on rfl ?_
      simp only [putAll, Act.put, List.setIfInBounds_toArray, List.set_cons_zero, List.set_cons_succ, e0] at hK ⊢
      go_simp
      exact hK _ undef _ rfl ⟨hG.1.insert 11 (by decide) e0 hlt hmap hinv (ins_new11 _ _ _ hn) (ins_upd11 _ _ _ hn) trivial, hG.2.keep 11 _ (by decide) (by decide) (by decide)⟩
    · obtain ⟨b, es, c, e0, hlt, hmap, hinv⟩ := hG.1.map (hd 0 (by kernel_rfl))
      have hin := insert_run (P := Tryd.prog) (T := 61) Tryd.underlying61 Tryd.underlying3 hmap 7 (.string ⟨#[112, 111, 105, 110, 116, 101, 114]⟩) (hinv.absent (ins_new12 _ _ _ hn))
      refine wanted_on rfl ?_
      simp only [putAll, Act.put, List.setIfInBounds_toArray, List.set_cons_zero, List.set_cons_succ, e0] at hK ⊢
      go_simp
      exact hK _ undef _ rfl ⟨hG.1.insert 12 (by decide) e0 hlt hmap hinv (ins_new12 _ _ _ hn) (ins_upd12 _ _ _ hn) trivial, hG.2.keep 12 _ (by decide) (by decide) (by decide)⟩
    · obtain ⟨b, es, c, e0, hlt, hmap, hinv⟩ := hG.1.map (hd 0 (by kernel_rfl))
      have hin := insert_run (P := Tryd.prog) (T := 61) Tryd.underlying61 Tryd.underlying3 hmap 8 (.string ⟨#[102, 117, 110, 99]⟩) (hinv.absent (ins_new13 _ _ _ hn))
      refine wanted_on rfl ?_
      simp only [putAll, Act.put, List.setIfInBounds_toArray, List.set_cons_zero, List.set_cons_succ, e0] at hK ⊢
      go_simp
      exact hK _ undef _ rfl ⟨hG.1.insert 13 (by decide) e0 hlt hmap hinv (ins_new13 _ _ _ hn) (ins_upd13 _ _ _ hn) trivial, hG.2.keep 13 _ (by decide) (by decide) (by decide)⟩
    · refine wanted_on rfl ?_
      simp only [putAll, Act.put, List.setIfInBounds_toArray, List.set_cons_zero, List.set_cons_succ] at hK ⊢
      go_simp
      refine hK _ (f 0) _ rfl ⟨hG.1.grow 14 (by decide) (ins_keep14 _ _ _) trivial (Below.refl _ _), ?_⟩
      exact ⟨fun _ => by rw [upd_eq, upd_ne (by decide)], fun e => (by rw [updB_ne' (by decide), hno 15 (by kernel_rfl)] at e; cases e)⟩
    · have E14 : Hid (f 14 = f 0) := hG.2.1 (hd 14 (by kernel_rfl))
      refine wanted_on rfl ?_
      simp only [putAll, Act.put, List.setIfInBounds_toArray, List.set_cons_zero, List.set_cons_succ] at hK ⊢
      go_simp
      refine hK _ (f 14) _ rfl ⟨hG.1.grow 15 (by decide) (ins_keep15 _ _ _) trivial (Below.refl _ _), ?_⟩
      exact ⟨fun _ => by rw [upd_ne (by decide), upd_ne (by decide)]; exact E14.out, fun _ => by rw [upd_eq, upd_ne (by decide)]; exact E14.out⟩
  · intro f d u hG hf
    obtain ⟨b, es, c, e0, hlt, hmap, hinv⟩ := hG.1.map (hf 0 (by decide))
    have e14 : f 14 = .map (some b) := (hG.2.1 (hf 14 (by decide))).trans e0
    have e15 : f 15 = .map (some b) := (hG.2.2 (hf 15 (by decide))).trans e0
    obtain ⟨⟨c0, c1, c2, c3⟩, _⟩ := box4 hG.1.box
    have HBB : Hid (Below w.heap.size w u) := hG.1.below
    have HLK : Hid (¬ x.kind = 2 → ¬ x.kind = 6 → (Instr.lookup 61 (.map (some b)) (.int .i64 x.kind) false).run Tryd.prog u = .ok (.string S) u) := fun h2 h6 => by
      rw [lookup_run Tryd.underlying61 Tryd.underlying3 hmap x.kind zero_str hinv, HIA2.out d (fun i hi => hf i hi) h2 h6]
    simp only [putAll, Act.put, List.setIfInBounds_toArray, List.set_cons_zero, List.set_cons_succ, Nat.zero_add, Nat.reduceAdd, e15]
    clear hf e14 e15 hG hmap hinv HIA2 HD e0
    by_cases h2 : x.kind = 2
    · have hs := HS2.out h2
      clear HS2 HS6 HLK HLA HDL HAS HTS
      rw [h2] at c0
      by_cases hn : x.n = 0
      · rw [if_pos hn] at hs
        subst hs
        rw [hn] at c1
        go_wp2_with fail
        go_ret
        exact ⟨rfl, HBB.out⟩
      · rw [if_neg hn] at hs
        subst hs
        go_wp2_with fail
        go_ret
        exact ⟨rfl, HBB.out⟩
    by_cases h6 : x.kind = 6
    · have hs := HS6.out h6
      have hz6 := hz h6
      subst hs
      clear HS2 HS6 HLK h2 hz
      rw [h6] at c0 ⊢
      clear h6
      go_wp2_with fail
      go_loopw [4, 28] (fun sv i wr => ∃ k : Nat, k ≤ x.l.length ∧ i = .int .i64 k ∧ sv = .string (accB x.l k) ∧ Hid (Below w.heap.size w wr)) (fun _ i _ => x.l.length - (intOf i).toNat)
      case atStart => exact ⟨0, Nat.zero_le _, rfl, by rw [accB_zero], HBB.out⟩
      case round =>
        obtain ⟨k, hk, rfl, rfl, HB⟩ := hrel
        by_cases hlt : k < x.l.length
        · obtain ⟨b1, o1, rfl, hx⟩ := HLA.out k hlt
          have hx2 := hx wr HB.out
          clear hx
          have HTK : Hid _ := HDL.out k hlt wr
          have hts := HTS.out k hlt
          have hlt2 : (k : Int) < (x.l.length : Int) := by omega
          have has := HAS.out k
          by_cases hk0 : k = 0
          · subst hk0
            have HE : Hid _ := accB_first x.l hlt
            have hk00 : ¬ ((0 : Nat) : Int) > 0 := by omega
            rw [Nat.add_zero] at hx2
            generalize x.l[0] = p at *
            generalize accB x.l 0 = a0 at *
            have hs1 : ¬ 9223372036854775807 < a0.size + (txt p).size := by omega
            go_wp2_with fail
            refine Calls.mono HTK.out ?_
            rintro e w1 ⟨rfl, hb1⟩
            have HB1 : Hid (Below w.heap.size w w1) := HB.out.trans (hb1.mono HB.out.size)
            clear hb1
            go_wp2_with fail
            go_roundw
            case rel => exact ⟨1, by omega, by go_num, by rw [HE.out], HB1.out⟩
            case measure => simp [intOf]; omega
          · have HE : Hid _ := accB_step x.l k hlt (by omega)
            have hk00 : (k : Int) > 0 := by omega
            generalize x.l[k] = p at *
            generalize accB x.l k = a0 at *
            have hs1 : ¬ 9223372036854775807 < a0.size + 1 := by omega
            have hs2 : ¬ 9223372036854775807 < a0.size + 1 + (txt p).size := by omega
            go_wp2_with fail
            refine Calls.mono HTK.out ?_
            rintro e w1 ⟨rfl, hb1⟩
            have HB1 : Hid (Below w.heap.size w w1) := HB.out.trans (hb1.mono HB.out.size)
            clear hb1
            go_wp2_with fail
            go_roundw
            case rel => exact ⟨k + 1, by omega, by go_num, by rw [HE.out], HB1.out⟩
            case measure => simp [intOf]; omega
        · have hkn : k = x.l.length := by omega
          subst hkn
          have hlt2 : ¬ (x.l.length : Int) < (x.l.length : Int) := by omega
          have has := HAS.out x.l.length
          have hs1 : ¬ 9223372036854775807 < (accB x.l x.l.length).size + 1 := by omega
          go_wp2_with fail
          go_ret
          exact ⟨rfl, HB.out⟩
    · have hl := HLK.out h2 h6
      clear HS2 HS6 HLK HLA HDL HAS HTS
      go_wp2_with fail
      go_ret
      exact ⟨rfl, HBB.out⟩
end Go.Proofs.YtncjaohiimenaaaDoor
