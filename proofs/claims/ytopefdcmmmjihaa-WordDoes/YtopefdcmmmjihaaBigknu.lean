/- The contract of the big numbers' division by 2^64. -/
import Derived.Test.YtopefdcmmmjihaaKnuplain
import Derived.Laws.CopyOwn
namespace Go.Proofs.Ytopefdcmmmjihaa
open Go.ChangeShapes Go.WideShapes Go.ChangeAt Go.RowKit

theorem three_words {l : List Int} {z : Int} (hw : Wds l) (hn : Norm l) (z0 : 0 < z) (z1 : z < 4294967296) (h : nv l = 18446744073709551616 * z) : l = [0, 0, z] := by
  have t3 : top 3 = 79228162514264337593543950336 := by decide
  have t2 : top 2 = 18446744073709551616 := by decide
  have h1 : l.length ≤ 3 := nv_lenS hw hn (by omega)
  have h2 : ¬ l.length ≤ 2 := fun h2 => by
    have h3 := (nv_range hw).2
    have h4 := top_mono h2
    omega
  match l, h1, h2 with
  | [x, y, w], _, _ =>
    have hx := hw x (by simp)
    have hy := hw y (by simp)
    have hww := hw w (by simp)
    simp only [nv] at h
    have e1 : w = z := by omega
    have e2 : y = 0 := by omega
    have e3 : x = 0 := by omega
    rw [e1, e2, e3]
  | [], _, h2 => exact absurd (by simp) h2
  | [_], _, h2 => exact absurd (by simp) h2
  | [_, _], _, h2 => exact absurd (by simp) h2
  | _ :: _ :: _ :: _ :: _, h1, _ => simp at h1

theorem made_list (n : Nat) : madeCells #[Value.int .u32 0] n = (List.replicate n (Value.int .u32 0)).toArray := by
  apply Array.toList_inj.1
  rw [toList_madeCells_one]
theorem below_dr {B : Nat} {a b : World} (h : Below B a b) (n : Nat) : Below B a (b.drewN n) := ⟨h.os, h.tape, h.output, h.size, h.block⟩
/-- The row behind the copy. -/
theorem spliced {w : World} {B g n : Nat} {ls : List Int} (hBg : B ≤ g) (hl : ls.length ≤ n) (hn : n ≤ 1000000) (h : w.heap[g]? = some (.cells (splice (List.replicate n (Value.int .u32 0)) 0 (ls.map (Value.int .u32))).toArray 54 (0, 0))) :
    w.ownsRow B 54 1 (.slice (some ⟨g, 0, none⟩) n n) n ((ls ++ List.replicate (n - ls.length) 0).map (Value.int .u32)) := by
  have e : splice (List.replicate n (Value.int .u32 0)) 0 (ls.map (Value.int .u32)) = (ls ++ List.replicate (n - ls.length) 0).map (Value.int .u32) := by
    simp [splice]
  rw [e] at h
  refine ⟨by simp; omega, .inr ⟨g, n, ((ls ++ List.replicate (n - ls.length) 0).map (Value.int .u32)).toArray, rfl, hBg, h, Nat.le_refl _, by unfold maxLen; omega, by simp; omega, by rw [List.take_of_length_le (by simp; omega)]⟩⟩

set_option linter.unusedSimpArgs false in
set_option maxRecDepth 100000 in
set_option maxHeartbeats 20000000 in
theorem div_knuth (va vb : Value) (a b : List Int) (w : World) (ha : Row w va a) (hb : Row w vb b) (na : Norm a) (nb : Norm b) (hla : a.length ≤ 90) (hle : 18446744073709551616 ≤ nv a) (hb0 : nv b = 18446744073709551616) :
    Calls Try.prog 29 #[va, vb] w (DivPost (fun q t => 0 ≤ q ∧ q < top 99 ∧ t = nv a % 18446744073709551616) w) := by
  obtain rfl : b = [0, 0, 1] := three_words hb.wds nb (by decide) (by decide) (by rw [hb0]; rfl)
  obtain ⟨ao, n, ca, rfl, -, hn⟩ := ha.slice
  obtain ⟨bo, m, cb, rfl, -, hm⟩ := hb.slice
  obtain rfl : m = 3 := hm
  have hn3 : 3 ≤ n := by
    have t2 : top 2 = 18446744073709551616 := by decide
    rcases Nat.lt_or_ge n 3 with h | h
    · have h3 := (nv_range ha.wds).2
      have h4 := top_mono (m := a.length) (n := 2) (by omega)
      omega
    · exact h
  have HC : Hid (Calls Try.prog 38 #[.slice ao n ca, .slice bo 3 cb] w fun e w' => e = .returned (.int .i64 (cmpI (nv a) (nv [0, 0, 1]))) ∧ ∃ m, w' = w.drewN m) := cmp_any _ _ a [0, 0, 1] w ha hb na nb
  obtain ⟨g1, g2⟩ := ge_cmp (x := nv a) (y := nv [0, 0, 1]) (by rw [hb0]; exact hle)
  generalize cmpI (nv a) (nv [0, 0, 1]) = r at *
  have HA : Hid (∀ W, Below w.heap.size w W → Row W (.slice ao n ca) a) := fun W hW => ha.below hW
  have HB : Hid (∀ W, Below w.heap.size w W → Row W (.slice bo 3 cb) [0, 0, 1]) := fun W hW => hb.below hW
  have HN : Hid (a.length = n ∧ Norm a ∧ Norm [0, 0, (1 : Int)]) := ⟨hn.symm, na, nb⟩
  have hn90 : n ≤ 90 := by omega
  clear ha hb na nb hla hn
  go_enter Try.func29, Try.ntmps29
  go_wp2_with fail
  refine HC.out.mono ?_
  rintro e w1 ⟨rfl, q, rfl⟩
  have B1 : Below w.heap.size w (w.drewN q) := below_drewN' w q
  go_wp2_with fail
  refine (length_any _ [0, 0, 1] _ (HB.out _ B1) HN.out.2.2 (by decide)).mono ?_
  rintro e w2 ⟨rfl, ln, rfl, -, hk⟩
  obtain rfl : ln = 65 := by
    have h1 := hk 64
    have h2 := hk 65
    have e1 : nv [0, 0, 1] = 18446744073709551616 := rfl
    have e2 : (2 : Int) ^ 64 = 18446744073709551616 := rfl
    have e3 : (2 : Int) ^ 65 = 36893488147419103232 := rfl
    rw [e1, e2] at h1
    rw [e1, e3] at h2
    omega
  clear hk HC
  go_wp2_with fail
  refine (left_any _ [0, 0, 1] 31 _ (HB.out _ B1) (by decide) (by decide)).mono ?_
  rintro e w3 ⟨vv, vs, rfl, rv, nvn, ev, bv⟩
  obtain rfl : vs = [0, 0, 2147483648] := three_words rv.wds nvn (by decide) (by decide) (by rw [ev]; rfl)
  obtain ⟨vo, vn, vc, rfl, -, hvn⟩ := rv.slice
  obtain rfl : vn = 3 := hvn
  have B3 : Below w.heap.size w w3 := below_trans B1 bv
  have HV : Hid (∀ W, Below w3.heap.size w3 W → Row W (.slice vo 3 vc) [0, 0, 2147483648]) := fun W hW => rv.below hW
  have hmk := fun X => run_make_row' (P := Try.prog) 31 54 (.int .u32 0) 4 Try.underlying31 Try.infoU32 rfl .i64 .i64 (n + 2) (by omega) (by omega) X
  have ec : ((n + 2 : Nat) : Int) = (n : Int) + 2 := by omega
  rw [ec] at hmk
  clear ec rv nvn ev bv
  go_wp2_with fail
  have hu0 := made_row w3 (n + 2) (by omega)
  have B4 : Below w3.heap.size w3 (w3.alloc (.cells (madeCells #[.int .u32 0] (n + 2)) 54)) := (Below.refl _ _).alloc (Nat.le_refl _) _
  refine (left_any _ a 31 _ (HA.out _ (below_trans B3 B4)) (by rw [HN.out.1]; omega) (by decide)).mono ?_
  rintro e w4 ⟨lv, ls, rfl, rl, nl, el, bl⟩
  obtain ⟨lo, lln, lc, rfl, -, hll⟩ := rl.slice
  have aw := (nv_range (HA.out _ (Below.refl _ _)).wds).2
  rw [HN.out.1] at aw
  have hlln : lln ≤ n + 1 := by
    rw [hll]
    apply nv_lenS rl.wds nl
    have e : top (n + 1) = 4294967296 * top n := rfl
    rw [el, e, show (2 : Int) ^ 31 = 2147483648 from rfl]
    have := top_pos n
    omega
  have hlpos : 0 < ls.length := by
    rcases Nat.eq_zero_or_pos ls.length with h | h
    · have : ls = [] := List.length_eq_zero_iff.1 h
      subst this
      rw [show (2 : Int) ^ 31 = 2147483648 from rfl] at el
      simp [nv] at el; omega
    · exact h
  obtain ⟨gl, cl, esl, -, hcl⟩ := rl.cellsAt hlpos
  simp only [Value.slice.injEq] at esl
  obtain ⟨rfl, -, rfl⟩ := esl
  have hg4 : w4.heap[w3.heap.size]? = some (.cells (List.replicate (n + 2) (Value.int .u32 0)).toArray 54 (0, 0)) := by
    rw [← made_list]
    exact (bl.block w3.heap.size (show w3.heap.size < (w3.heap.push _).size by rw [Array.size_push]; exact Nat.lt_succ_self _)).trans (heap_alloc_new w3 _)
  have HG4 : Hid (w4.heap[w3.heap.size]? = some (.cells (List.replicate (n + 2) (Value.int .u32 0)).toArray 54 (0, 0))) := hg4
  obtain ⟨CS, hCS⟩ : ∃ CS, CS = ls.map (Value.int .u32) := ⟨_, rfl⟩
  have HCS : Hid (CS = ls.map (Value.int .u32)) := hCS
  have HLC : Hid (∀ j u, CS[j]? = some u → w4.cell? ((⟨gl, 0, none⟩ : Addr).add j) = some u) := by
    intro j u hu
    rw [hCS, List.getElem?_map] at hu
    obtain ⟨x, hx, rfl⟩ := Option.map_eq_some_iff.1 hu
    have hj : j < ls.length := (List.getElem?_eq_some_iff.1 hx).1
    have := hcl j hj
    rw [List.getD_eq_getElem?_getD, hx] at this
    rw [add_at]
    simpa using this
  have HO : Hid (∀ u ∈ CS, u.oneCell' = true) := by
    intro u hu
    rw [hCS] at hu
    obtain ⟨x, _, rfl⟩ := List.mem_map.1 hu
    rfl
  have HCL : Hid (CS.length = lln) := by show CS.length = lln; rw [hCS, List.length_map]; exact hll.symm
  have B5 : Below w3.heap.size w3 w4 := below_trans B4 bl
  have HLS : Hid (Wds ls ∧ nv ls = nv a * 2147483648 ∧ ls.length = lln) := ⟨rl.wds, el, hll.symm⟩
  obtain ⟨CUR, hCUR⟩ : ∃ CUR, CUR = List.replicate (n + 2) (Value.int .u32 0) := ⟨_, rfl⟩
  rw [← hCUR] at HG4
  have HCUR : Hid (CUR = List.replicate (n + 2) (Value.int .u32 0)) := hCUR
  have HFIT : Hid (0 + CS.length ≤ CUR.length ∧ CS.length = Nat.min lln (n + 2)) := by
    rw [hCUR]; refine ⟨by rw [HCL.out, List.length_replicate]; omega, by rw [HCL.out]; exact (Nat.min_eq_left (by omega)).symm⟩
  clear hCS hg4 hcl hCUR rl nl el bl hu0 aw B4
  obtain ⟨i0, hi, hz0, hz1, hz2⟩ := info_parts Try.infoU32
  have hsz : (Try.prog.info? 54).map (·.size) = some 1 := by rw [hi]; simp [hz1]
  clear hi hz0 hz1 hz2
  rename_i hKK
  refine hKK _ _ ?_
  clear hKK
  refine wpList_copy_splice rfl _ _ 31 31 rfl 54 Try.underlying31 hsz (some ⟨w3.heap.size, 0, none⟩) (some ⟨gl, 0, none⟩) (n + 2) (n + 2) lln lc rfl rfl w3.heap.size 0 CUR 54 HG4.out CS HFIT.out.2 (fun _ => ⟨rfl, _, rfl, HLC.out⟩) HFIT.out.1 HO.out w3.heap.size w3 B5 (Nat.le_refl _) ?_
  intro w5 HG5 B6
  rw [HCUR.out, HCS.out] at HG5
  have HU : Hid (w5.ownsRow w3.heap.size 54 1 (.slice (some ⟨w3.heap.size, 0, none⟩) (n + 2) (n + 2)) (n + 2) ((ls ++ List.replicate (n + 2 - ls.length) 0).map (Value.int .u32))) := spliced (Nat.le_refl _) (by rw [HLS.out.2.2]; omega) (by omega) HG5.out
  clear HG5 HG4 HCS HCUR HLC HO HCL HFIT B5 hsz hmk
  have hmk := fun X => run_make_row' (P := Try.prog) 31 54 (.int .u32 0) 4 Try.underlying31 Try.infoU32 rfl .i64 .i64 (n - 1) (by omega) (by omega) X
  have ec : ((n - 1 : Nat) : Int) = (n : Int) - 1 := by omega
  have ec2 : (n : Int) + 2 - 3 - 1 + 1 = (n : Int) - 1 := by omega
  have ec3 : (n : Int) - 2 + 1 = (n : Int) - 1 := by omega
  rw [ec] at hmk
  obtain ⟨gv, ev, v2, -, -⟩ := (HV.out w5 B6).word (Below.refl _ _) (j := 2) (by decide)
  obtain ⟨gv', ev', v1, -, -⟩ := (HV.out w5 B6).word (Below.refl _ _) (j := 1) (by decide)
  rw [ev] at ev'
  cases ev'
  subst ev
  have B7 : Below w3.heap.size w3 (w5.alloc (.cells (madeCells #[.int .u32 0] (n - 1)) 54)) := B6.alloc B6.size _
  obtain ⟨gw, ew, v2', -, -⟩ := (HV.out _ B7).word (Below.refl _ _) (j := 2) (by decide)
  cases ew
  obtain ⟨gw, ew, v1', -, -⟩ := (HV.out _ B7).word (Below.refl _ _) (j := 1) (by decide)
  cases ew
  go_wp2
  go_quiet (fail)
  go_wp2
  have hq0 := made_row w5 (n - 1) (by omega)
  have HQ0 : Hid (Row (w5.alloc (.cells (madeCells #[.int .u32 0] (n - 1)) 54)) (.slice (some ⟨w5.heap.size, 0, none⟩) (n - 1) (n - 1)) (List.replicate (n - 1) 0)) := row_of (by simp) hq0 (wds_zeros _)
  have HU0 : Hid (Row w5 (.slice (some ⟨w3.heap.size, 0, none⟩) (n + 2) (n + 2)) (ls ++ List.replicate (n + 2 - ls.length) 0)) := row_of (by have := HLS.out.2.2; simp; omega) HU.out (by intro x hx; rcases List.mem_append.1 hx with h | h; exact HLS.out.1 x h; rw [(List.mem_replicate.1 h).2]; omega)
  have HU1 : Hid (Row (w5.alloc (.cells (madeCells #[.int .u32 0] (n - 1)) 54)) (.slice (some ⟨w3.heap.size, 0, none⟩) (n + 2) (n + 2)) (ls ++ List.replicate (n + 2 - ls.length) 0)) := HU0.out.below ((Below.refl _ _).alloc (Nat.le_refl _) _)
  have hs35 : w3.heap.size < w5.heap.size := by
    obtain ⟨_, _, _, e, _, _⟩ := HU0.out.slice
    have := HU0.out.lt w3.heap.size rfl
    exact this
  have B7' : Hid (Below w3.heap.size w3 (w5.alloc (.cells (madeCells #[.int .u32 0] (n - 1)) 54))) := B7
  clear hq0 v1 v2 v1' v2' HU hmk ec ec2 ec3 B7
  go_loopw [18] (fun jj wr => ∃ (t : Nat) (us qs : List Int), t ≤ n - 1 ∧ jj = .int .i64 ((t : Int) - 1) ∧ Hid (Row wr (.slice (some ⟨w3.heap.size, 0, none⟩) (n + 2) (n + 2)) us ∧ Row wr (.slice (some ⟨w5.heap.size, 0, none⟩) (n - 1) (n - 1)) qs ∧ nv us % M95 = nv a * 2147483648 % M95 ∧ (∀ p, t + 2 < p → us.getD p 0 = 0) ∧ us.getD (t + 2) 0 < 2147483648) ∧ Hid (Below w3.heap.size w3 wr))
    (fun jj _ => (intOf jj + 1).toNat)
  case atStart =>
    have hla := HLS.out.2.2
    refine ⟨n - 1, ls ++ List.replicate (n + 2 - ls.length) 0, List.replicate (n - 1) 0, Nat.le_refl _, ?_, ⟨HU1.out, HQ0.out, ?_, ?_, ?_⟩, below_dr B7'.out _⟩
    · exact congrArg (Value.int .i64) (by omega)
    · rw [nv_append_zeros, HLS.out.2.1]
    · intro p hp; exact getD_far (by simp; omega)
    · rw [getD_zeros_behind _ _ _ (by omega)]; decide
  case round =>
    obtain ⟨t, us, qs, ht, rfl, HR, HBL⟩ := hrel
    by_cases ht0 : t = 0
    · subst ht0
      obtain ⟨y0, y1⟩ := nv_three HR.out.1.wds HR.out.2.2.2.1 HR.out.2.2.2.2
      have HE : Hid (nv us / 2 ^ 31 = nv a % 18446744073709551616) := knu_end y0 y1 HR.out.2.2.1
      have hul : us.length ≤ 100 := by have := len_of HR.out.1; omega
      have hql : qs.length ≤ 99 := by have := len_of HR.out.2.1; omega
      have HQB : Hid (0 ≤ nv qs ∧ nv qs < top 99) := by
        have h1 := nv_range HR.out.2.1.wds
        have h2 := top_mono (m := qs.length) (n := 99) (by omega)
        exact ⟨h1.1, by omega⟩
      clear y0 y1
      go_wp2_with fail
      refine (trim_any _ qs _ HR.out.2.1).mono ?_
      rintro e w6 ⟨rfl, k1, v1, rfl, hk1, hr1, -, hz1, hl1⟩
      go_wp2_with fail
      refine (trim_any _ us _ HR.out.1).mono ?_
      rintro e w7 ⟨rfl, k2, v2, rfl, hk2, hr2, -, hz2, hl2⟩
      have HT : Hid (Row w7 v1 (qs.take k1) ∧ Norm (qs.take k1) ∧ nv (qs.take k1) = nv qs ∧ Row w7 v2 (us.take k2) ∧ nv (us.take k2) = nv us) := ⟨hr1, norm_take hk1 hl1, nv_take hz1, hr2, nv_take hz2⟩
      clear hr1 hz1 hl1 hr2 hz2 hl2 hk1
      go_wp2_with fail
      refine (right_any _ (us.take k2) 31 _ HT.out.2.2.2.1 (by rw [List.length_take]; omega) (by decide)).mono ?_
      rintro e w8 ⟨v3, rs, rfl, r3, n3, e3, b8⟩
      obtain ⟨ro, rn, rc, rfl, hrn, -⟩ := r3.slice
      have r4 := HT.out.1.below b8
      obtain ⟨qo, qn, qc, rfl, hqn, -⟩ := r4.slice
      rw [HT.out.2.2.2.2, HE.out] at e3
      have HF : Hid (Row w8 (.slice qo qn qc) (qs.take k1) ∧ Row w8 (.slice ro rn rc) rs ∧ qn ≤ maxLen ∧ rn ≤ maxLen ∧ Norm rs ∧ nv rs = nv a % 18446744073709551616 ∧ Below w.heap.size w w8) := ⟨r4, r3, hqn, hrn, n3, e3, below_trans B3 (below_trans HBL.out b8)⟩
      clear r3 r4 n3 e3 b8 hqn hrn
      go_wp2
      go_ret2
      exact ⟨_, _, _, qs.take k1, _, _, _, rs, rfl, HF.out.1, HF.out.2.1, HF.out.2.2.1, HF.out.2.2.2.1, HT.out.2.1, HF.out.2.2.2.2.1, ⟨by rw [HT.out.2.2.1]; exact HQB.out.1, by rw [HT.out.2.2.1]; exact HQB.out.2, HF.out.2.2.2.2.2.1⟩, HF.out.2.2.2.2.2.2⟩
    · obtain ⟨s, rfl⟩ : ∃ s, t = s + 1 := ⟨t - 1, by omega⟩
      have ej : ((s + 1 : Nat) : Int) - 1 = (s : Int) := by omega
      rw [ej]
      have hul : us.length = n + 2 := by obtain ⟨_, _, _, e, _, h⟩ := HR.out.1.slice; cases e; exact h.symm
      obtain ⟨g, e, p3, x30, -⟩ := word_now HR.out.1 (j := s + 3) (by omega)
      cases e
      obtain ⟨g, e, p2, x20, x21⟩ := word_now HR.out.1 (j := s + 2) (by omega)
      cases e
      obtain ⟨g, e, p1, x10, x11⟩ := word_now HR.out.1 (j := s + 1) (by omega)
      cases e
      obtain ⟨g, e, p0, x00, x01⟩ := word_now HR.out.1 (j := s) (by omega)
      cases e
      have x31 : us.getD (s + 3) 0 < 2147483648 := HR.out.2.2.2.2
      have i3 : ((s : Int) + 3).toNat = s + 3 := by omega
      have i2 : ((s : Int) + 3 - 1).toNat = s + 2 := by omega
      have i1 : ((s : Int) + 3 - 2).toNat = s + 1 := by omega
      have i2' : ((s : Int) + 2).toNat = s + 2 := by omega
      have i1' : ((s : Int) + 1).toNat = s + 1 := by omega
      generalize hx3 : us.getD (s + 3) 0 = x3 at p3 x30 x31
      generalize hx2 : us.getD (s + 2) 0 = x2 at p2 x20 x21
      generalize hx1 : us.getD (s + 1) 0 = x1 at p1 x10 x11
      generalize hx0 : us.getD s 0 = x0 at p0 x00 x01
      have HX : Hid (us.getD (s + 3) 0 = x3 ∧ us.getD (s + 2) 0 = x2 ∧ us.getD (s + 1) 0 = x1 ∧ us.getD s 0 = x0) := ⟨hx3, hx2, hx1, hx0⟩
      clear hx3 hx2 hx1 hx0
      have ho := or_high x20 x21 x30 (by omega)
      obtain ⟨g, r, eg, er, g0, g1, r0, r1, m1, m2, m3, m4⟩ := knu_digit x30 x31 x20 x21
      have ht1 : (x2 + 4294967296 * x3).tdiv 2147483648 = g := by rw [Int.tdiv_eq_ediv_of_nonneg (by omega)]; exact eg
      have ht2 : (x2 + 4294967296 * x3).tmod 2147483648 = r := by rw [Int.tmod_eq_emod_of_nonneg (by omega)]; exact er
      have hwg : IntKind.u64.wrap g = g := by rw [IntKind.wrap_u64]; omega
      have hwr : IntKind.u64.wrap r = r := by rw [IntKind.wrap_u64]; omega
      have ho2 := or_high x10 x11 r0 (by omega)
      go_wp2
      go_quiet (fail)
      go_wp2
      go_quiet (fail)
      go_wp2
      refine wp_loop_rounds 1 ?_
      rw [rounds_succ]
      go_wp2
      clear p0 p1 p2 p3 ho ho2 ht1 ht2 hwg hwr
      go_loopw [22, 23, 24] (fun cc dd ii wq => ∃ (i : Nat), i ≤ 3 ∧ ii = .int .i64 i ∧ dd = .int .u64 0 ∧ ((i ≤ 2 ∧ cc = .int .u64 0 ∧ Hid (Row wq (.slice (some ⟨w3.heap.size, 0, none⟩) (n + 2) (n + 2)) us)) ∨ (i = 3 ∧ cc = .int .u64 x3 ∧ Hid (Row wq (.slice (some ⟨w3.heap.size, 0, none⟩) (n + 2) (n + 2)) (us.set (s + 2) (x2 % 2147483648))))) ∧ Hid (Row wq (.slice (some ⟨w5.heap.size, 0, none⟩) (n - 1) (n - 1)) qs ∧ Below w3.heap.size w3 wq))
        (fun _ _ ii _ => 3 - (intOf ii).toNat)
      case atStart => exact ⟨0, by omega, rfl, rfl, .inl ⟨by omega, rfl, HR.out.1⟩, HR.out.2.1, below_dr HBL.out _⟩
      case round =>
        obtain ⟨i, hi, rfl, rfl, HC, HQ⟩ := hrel
        obtain ⟨gv', ev', y2, -, -⟩ := (HV.out wr HQ.out.2).word (Below.refl _ _) (j := 2) (by decide)
        cases ev'
        obtain ⟨gv', ev', y1, -, -⟩ := (HV.out wr HQ.out.2).word (Below.refl _ _) (j := 1) (by decide)
        cases ev'
        obtain ⟨gv', ev', y0, -, -⟩ := (HV.out wr HQ.out.2).word (Below.refl _ _) (j := 0) (by decide)
        cases ev'
        have hne : (⟨w5.heap.size, 0, none⟩ : Addr).block ≠ w3.heap.size := by show w5.heap.size ≠ w3.heap.size; omega
        rcases HC with ⟨hi2, rfl, HW⟩ | ⟨rfl, rfl, HW⟩
        · rcases (show i = 0 ∨ i = 1 ∨ i = 2 by omega) with rfl | rfl | rfl
          · obtain ⟨_, e, p, _, _⟩ := word_now HW.out (j := s) (by omega)
            cases e
            rw [HX.out.2.2.2] at p
            have f := HW.out.frozen (s)
            have hij : ((0 : Int) + (s : Int)).toNat = s := by omega
            have dd0 : x0 / 9223372036854775808 = 0 := by omega
            have es : us.set (s) x0 = us := by rw [← HX.out.2.2.2]; exact set_same _ _ (by omega)
            obtain ⟨o1, g1⟩ := HW.out.stored (s) (x := x0) ⟨by omega, by omega⟩
            rw [es] at o1
            have HO : Hid (Row (wr.setCell ⟨w3.heap.size, s, none⟩ (.int .u32 x0)) (.slice (some ⟨w3.heap.size, 0, none⟩) (n + 2) (n + 2)) us ∧ Row (wr.setCell ⟨w3.heap.size, s, none⟩ (.int .u32 x0)) (.slice (some ⟨w5.heap.size, 0, none⟩) (n - 1) (n - 1)) qs ∧ Below w3.heap.size w3 (wr.setCell ⟨w3.heap.size, s, none⟩ (.int .u32 x0))) :=
              ⟨o1, HQ.out.1.grown g1 (by intro e; injection e with e; exact hne e), HQ.out.2.grown g1 HQ.out.2.size (fun t ht => by cases ht; exact Nat.le_refl _)⟩
            clear o1 g1 es
            go_wp2
            exact ⟨⟨1, by omega, by go_num, rfl, .inl ⟨by omega, rfl, HO.out.1⟩, HO.out.2.1, HO.out.2.2⟩, by simp [intOf]⟩
          · obtain ⟨_, e, p, _, _⟩ := word_now HW.out (j := s + 1) (by omega)
            cases e
            rw [HX.out.2.2.1] at p
            have f := HW.out.frozen (s + 1)
            have hij : ((1 : Int) + (s : Int)).toNat = s + 1 := by omega
            have dd0 : x1 / 9223372036854775808 = 0 := by omega
            have es : us.set (s + 1) x1 = us := by rw [← HX.out.2.2.1]; exact set_same _ _ (by omega)
            obtain ⟨o1, g1⟩ := HW.out.stored (s + 1) (x := x1) ⟨by omega, by omega⟩
            rw [es] at o1
            have HO : Hid (Row (wr.setCell ⟨w3.heap.size, s + 1, none⟩ (.int .u32 x1)) (.slice (some ⟨w3.heap.size, 0, none⟩) (n + 2) (n + 2)) us ∧ Row (wr.setCell ⟨w3.heap.size, s + 1, none⟩ (.int .u32 x1)) (.slice (some ⟨w5.heap.size, 0, none⟩) (n - 1) (n - 1)) qs ∧ Below w3.heap.size w3 (wr.setCell ⟨w3.heap.size, s + 1, none⟩ (.int .u32 x1))) :=
              ⟨o1, HQ.out.1.grown g1 (by intro e; injection e with e; exact hne e), HQ.out.2.grown g1 HQ.out.2.size (fun t ht => by cases ht; exact Nat.le_refl _)⟩
            clear o1 g1 es
            go_wp2
            exact ⟨⟨2, by omega, by go_num, rfl, .inl ⟨by omega, rfl, HO.out.1⟩, HO.out.2.1, HO.out.2.2⟩, by simp [intOf]⟩
          · obtain ⟨_, e, p, _, _⟩ := word_now HW.out (j := s + 2) (by omega)
            cases e
            rw [HX.out.2.1] at p
            have f := HW.out.frozen (s + 2)
            have hij : ((2 : Int) + (s : Int)).toNat = s + 2 := by omega
            obtain ⟨y, hy⟩ : ∃ y, x2 % 2147483648 = y := ⟨_, rfl⟩
            have yy0 : 0 ≤ y := by omega
            have yy1 : y < 2147483648 := by omega
            have dd0 : y / 9223372036854775808 = 0 := by omega
            have m5 : IntKind.u32.wrap (g * 2147483648) = x2 - y := by rw [IntKind.wrap_u32, ← hy]; exact m1
            have m6 : x2 - (x2 - y) = y := by omega
            have m7 : 0 ≤ x2 - y := by omega
            have m8 : x2 - y ≤ 4294967295 := by omega
            obtain ⟨o1, g1⟩ := HW.out.stored (s + 2) (x := y) ⟨by omega, by omega⟩
            have HO : Hid (Row (wr.setCell ⟨w3.heap.size, s + 2, none⟩ (.int .u32 y)) (.slice (some ⟨w3.heap.size, 0, none⟩) (n + 2) (n + 2)) (us.set (s + 2) (x2 % 2147483648)) ∧ Row (wr.setCell ⟨w3.heap.size, s + 2, none⟩ (.int .u32 y)) (.slice (some ⟨w5.heap.size, 0, none⟩) (n - 1) (n - 1)) qs ∧ Below w3.heap.size w3 (wr.setCell ⟨w3.heap.size, s + 2, none⟩ (.int .u32 y))) :=
              ⟨by rw [hy]; exact o1, HQ.out.1.grown g1 (by intro e; injection e with e; exact hne e), HQ.out.2.grown g1 HQ.out.2.size (fun t ht => by cases ht; exact Nat.le_refl _)⟩
            clear o1 g1 hy m1
            go_wp2
            exact ⟨⟨3, by omega, by go_num, rfl, .inr ⟨rfl, rfl, HO.out.1⟩, HO.out.2.1, HO.out.2.2⟩, by simp [intOf]⟩
        · obtain ⟨_, e, p, _, _⟩ := word_now HW.out (j := s + 3) (by omega)
          cases e
          rw [getD_set_ne _ (by omega), HX.out.1] at p
          have f := HW.out.frozen (s + 3)
          obtain ⟨o1, g1⟩ := HW.out.stored (s + 3) (x := 0) ⟨by omega, by omega⟩
          have oq := HQ.out.1.grown g1 (by intro e; injection e with e; exact hne e)
          have bq := HQ.out.2.grown g1 HQ.out.2.size (fun t ht => by cases ht; exact Nat.le_refl _)
          obtain ⟨_, e, pq, _, _⟩ := word_now oq (j := s) (by omega)
          cases e
          have fq := oq.frozen s
          have hgw : IntKind.u32.wrap g = g := by rw [IntKind.wrap_u32]; omega
          obtain ⟨o2, g2⟩ := oq.stored s (x := g) ⟨by omega, by omega⟩
          have o3 := o1.grown g2 (by intro e; injection e with e; exact hne e.symm)
          have b3 := bq.grown g2 bq.size (fun t ht => by cases ht; omega)
          obtain ⟨z1, z2⟩ := knu_zeros (us := us) (s := s) (y := x2 % 2147483648) (by omega) HR.out.2.2.2.1 (by omega)
          have zr := knu_round (us := us) (s := s) (by omega)
          rw [HX.out.2.1, HR.out.2.2.1] at zr
          have HO : Hid (Row ((wr.setCell ⟨w3.heap.size, s + 3, none⟩ (.int .u32 0)).setCell ⟨w5.heap.size, s, none⟩ (.int .u32 g)) (.slice (some ⟨w3.heap.size, 0, none⟩) (n + 2) (n + 2)) ((us.set (s + 2) (x2 % 2147483648)).set (s + 3) 0) ∧ Row ((wr.setCell ⟨w3.heap.size, s + 3, none⟩ (.int .u32 0)).setCell ⟨w5.heap.size, s, none⟩ (.int .u32 g)) (.slice (some ⟨w5.heap.size, 0, none⟩) (n - 1) (n - 1)) (qs.set s g) ∧ nv ((us.set (s + 2) (x2 % 2147483648)).set (s + 3) 0) % M95 = nv a * 2147483648 % M95 ∧ (∀ p, s + 2 < p → ((us.set (s + 2) (x2 % 2147483648)).set (s + 3) 0).getD p 0 = 0) ∧ ((us.set (s + 2) (x2 % 2147483648)).set (s + 3) 0).getD (s + 2) 0 < 2147483648) := ⟨o3, o2, zr, z1, z2⟩
          have HO2 : Hid (Below w3.heap.size w3 ((wr.setCell ⟨w3.heap.size, s + 3, none⟩ (.int .u32 0)).setCell ⟨w5.heap.size, s, none⟩ (.int .u32 g))) := b3
          clear o1 g1 oq bq o2 g2 o3 b3 z1 z2 zr
          go_wp2
          exact ⟨⟨s, _, _, by omega, by go_num, HO.out, HO2.out⟩, by simp [intOf]⟩
end Go.Proofs.Ytopefdcmmmjihaa
