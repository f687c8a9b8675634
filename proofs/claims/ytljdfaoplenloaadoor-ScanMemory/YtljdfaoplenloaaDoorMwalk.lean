/- The walk of ScanMemory. -/
import Derived.Test.YtljdfaoplenloaaDoorSmem2
namespace Go.Proofs.YtljdfaoplenloaaDoor
open Go.ChangeShapes Go.WideShapes Go.ChangeAt Go.RowKit
set_option maxRecDepth 100000
set_option linter.unusedSimpArgs false
set_option linter.unusedVariables false
theorem news_one : ∀ u ∈ ([.int .i64 0, .string ⟨#[]⟩, .int .i64 0, .int .i64 0, .int .i64 0, .string ⟨#[]⟩, .int .i64 0, .int .i64 0] : List Value), u.oneCell' = true := by
  intro u hu
  simp only [List.mem_cons, List.not_mem_nil, or_false] at hu
  rcases hu with rfl | rfl | rfl | rfl | rfl | rfl | rfl | rfl <;> rfl
set_option maxHeartbeats 16000000 in
theorem own_memory (a0 : ByteArray) (hs : a0.size ≤ maxLen) (w : World) (hlib : Lib3 w) : Calls Tryd.prog 5 #[.string a0] w fun e w' => e = .returned (.bool true) ∧ Below w.heap.size w w' := by
  have HT : Hid (∀ W, Below w.heap.size w W → Calls Tryd.prog 6 #[.string a0] W fun e w' => Below W.heap.size W w' ∧ ∃ (ao : Option Addr) (cap : Nat), e = .returned (.tuple #[.slice ao (rts (tokR a0)).length cap, .agg #[.int .i64 (rsp (tokR a0)).1, .int .i64 (rsp (tokR a0)).2.1, .int .i64 (rsp (tokR a0)).2.2]]) ∧
      w'.ownsRow W.heap.size 33 4 (.slice ao (rts (tokR a0)).length cap) (rts (tokR a0)).length (tcells (rts (tokR a0)))) := fun W hW => (own_tokens a0 W hs (hlib.below hW)).mono fun e w' h => told_same h
  have H3 : Hid (∀ W, Below w.heap.size w W → Calls Tryd.prog 11 #[] W fun e w' => e = .returned (.bool true) ∧ Below W.heap.size W w') := fun W hW => own_three W (hlib.below hW)
  have HSH : Hid (∀ v W, Below w.heap.size w W → TLies W v ((rts (tokR a0)).map Tk.j) → Calls Tryd.prog 9 #[v] W (ShowPost W ((rts (tokR a0)).map Tk.j))) := fun v W hW hL => own_show v _ W hL (fun t ht => by
    obtain ⟨u, hu, rfl⟩ := List.mem_map.1 ht
    exact rts_short a0 hs u hu) (hlib.below hW)
  have hn := rts_len a0
  unfold ShowPost at HSH
  generalize rts (tokR a0) = ts at *
  generalize (rsp (tokR a0)).1 = c at *
  generalize (rsp (tokR a0)).2.1 = ln at *
  generalize (rsp (tokR a0)).2.2 = cl at *
  generalize (⟨(showV (ts.map Tk.j)).toArray⟩ : ByteArray) = shv at *
  generalize showE (ts.map Tk.j) = she at *
  have HLX : Hid ((tcells ts).length = ts.length * 4) := tcells_len ts
  have HST : Hid (∀ u ∈ tcells ts, u.oneCell' = true) := tcells_one ts
  obtain ⟨i0, hi, hz0, hz1, hz2⟩ := info_parts Tryd.infoTok
  have HSZ : Hid ((Tryd.prog.info? 33).map (·.size) = some 4) := by show (Tryd.prog.info? 33).map (·.size) = some 4; rw [hi]; simp [hz1]
  clear hs hlib
  go_enter Tryd.func5, Tryd.ntmps5
  go_wp2_with fail
  refine (HT.out _ (Below.refl _ _)).mono ?_
  rintro e w1 ⟨b1, ao, cv, rfl, hA1⟩
  have HA1 : Hid (w1.ownsRow w.heap.size 33 4 (.slice ao ts.length cv) ts.length (tcells ts)) := hA1
  have HB1 : Hid (Below w.heap.size w (w1.alloc (.cells #[.int .i64 c, .int .i64 ln, .int .i64 cl] 25))) := b1.alloc b1.size _
  have HC1 : Hid ((w1.alloc (.cells #[.int .i64 c, .int .i64 ln, .int .i64 cl] 25)).heap[w1.heap.size]? = some (.cells #[.int .i64 c, .int .i64 ln, .int .i64 cl] 25 (0, 0))) := heap_alloc_new w1 _
  have HAA : Hid ((w1.alloc (.cells #[.int .i64 c, .int .i64 ln, .int .i64 cl] 25)).ownsRow w.heap.size 33 4 (.slice ao ts.length cv) ts.length (tcells ts)) := hA1.alloc _
  have hzz : w1.heap.size < (w1.alloc (.cells #[.int .i64 c, .int .i64 ln, .int .i64 cl] 25)).heap.size := by simp
  clear hA1 b1
  go_wp2_with fail
  generalize (w1.alloc (.cells #[.int .i64 c, .int .i64 ln, .int .i64 cl] 25)) = W1 at *
  have HAL : Hid (∀ q, (Value.slice ao ts.length cv).ownBlock = some q → w.heap.size ≤ q ∧ q < W1.heap.size) := fun q hq => HAA.out.lt q hq
  refine (HT.out _ HB1.out).mono ?_
  rintro e w2 ⟨b2, bo, cb, rfl, hB2⟩
  have HB2 : Hid (Below w.heap.size w (w2.alloc (.cells #[.int .i64 c, .int .i64 ln, .int .i64 cl] 25))) := (HB1.out.trans (b2.mono HB1.out.size)).alloc (HB1.out.trans (b2.mono HB1.out.size)).size _
  have HC2 : Hid ((w2.alloc (.cells #[.int .i64 c, .int .i64 ln, .int .i64 cl] 25)).heap[w2.heap.size]? = some (.cells #[.int .i64 c, .int .i64 ln, .int .i64 cl] 25 (0, 0)) ∧ (w2.alloc (.cells #[.int .i64 c, .int .i64 ln, .int .i64 cl] 25)).heap[w1.heap.size]? = some (.cells #[.int .i64 c, .int .i64 ln, .int .i64 cl] 25 (0, 0))) :=
    ⟨heap_alloc_new w2 _, (Below.heap_alloc _ _ _ (Nat.lt_of_lt_of_le hzz b2.size)).trans ((b2.block _ hzz).trans HC1.out)⟩
  have HBR : Hid ((w2.alloc (.cells #[.int .i64 c, .int .i64 ln, .int .i64 cl] 25)).ownsRow W1.heap.size 33 4 (.slice bo ts.length cb) ts.length (tcells ts)) := hB2.alloc _
  have HAB : Hid ((w2.alloc (.cells #[.int .i64 c, .int .i64 ln, .int .i64 cl] 25)).ownsRow w.heap.size 33 4 (.slice ao ts.length cv) ts.length (tcells ts)) := (row_on HAA.out (Nat.le_refl _) b2).alloc _
  have hs12 : W1.heap.size ≤ (w2.alloc (.cells #[.int .i64 c, .int .i64 ln, .int .i64 cl] 25)).heap.size := by have := b2.size; simp; omega
  have hw2 : w2.heap.size < (w2.alloc (.cells #[.int .i64 c, .int .i64 ln, .int .i64 cl] 25)).heap.size ∧ w1.heap.size < (w2.alloc (.cells #[.int .i64 c, .int .i64 ln, .int .i64 cl] 25)).heap.size := by have := b2.size; simp; omega
  clear hB2 b2
  go_wp2_with fail
  generalize (w2.alloc (.cells #[.int .i64 c, .int .i64 ln, .int .i64 cl] 25)) = W2 at *
  refine (H3.out _ HB2.out).mono ?_
  rintro e w3 ⟨rfl, b3⟩
  have HW3 : Hid (Below w.heap.size w w3) := HB2.out.trans (b3.mono HB2.out.size)
  have HB3 : Hid (w3.ownsRow W1.heap.size 33 4 (.slice bo ts.length cb) ts.length (tcells ts)) := row_on HBR.out (Nat.le_refl _) b3
  have HA3 : Hid (w3.ownsRow w.heap.size 33 4 (.slice ao ts.length cv) ts.length (tcells ts)) := row_on HAB.out (Nat.le_refl _) b3
  have hs1 : w.heap.size ≤ W1.heap.size := HB1.out.size
  have hs3 : W1.heap.size ≤ w3.heap.size := Nat.le_trans hs12 b3.size
  have x1 := (b3.block _ hw2.2).trans HC2.out.2
  have x2 := (b3.block _ hw2.1).trans HC2.out.1
  have p0 : w3.cell? ⟨w1.heap.size, 0, none⟩ = some (.int .i64 c) := by simp [World.cell?, x1]
  have p1 : w3.cell? ⟨w1.heap.size, 1, none⟩ = some (.int .i64 ln) := by simp [World.cell?, x1]
  have p2 : w3.cell? ⟨w1.heap.size, 2, none⟩ = some (.int .i64 cl) := by simp [World.cell?, x1]
  have q0 : w3.cell? ⟨w2.heap.size, 0, none⟩ = some (.int .i64 c) := by simp [World.cell?, x2]
  have q1 : w3.cell? ⟨w2.heap.size, 1, none⟩ = some (.int .i64 ln) := by simp [World.cell?, x2]
  have q2 : w3.cell? ⟨w2.heap.size, 2, none⟩ = some (.int .i64 cl) := by simp [World.cell?, x2]
  clear x1 x2 b3 hw2 hzz hs12
  by_cases hbo : bo = none
  · subst hbo
    obtain ⟨htn, rfl⟩ : ts.length = 0 ∧ cb = 0 := by
      rcases HB3.out.2 with ⟨h, h0⟩ | ⟨g, cap, cur, h, _⟩
      · simp only [Value.slice.injEq] at h; exact ⟨h0, h.2.2⟩
      · cases h
    have hte : ts = [] := List.length_eq_zero_iff.1 htn
    subst hte
    clear htn
    have HA4 : Hid (w3.ownsRow w.heap.size 33 4 (.slice ao 0 cv) 0 []) := HA3.out
    have HB4 : Hid (w3.ownsRow W1.heap.size 33 4 (.slice none ([] : List Tk).length 0) ([] : List Tk).length (tcells [])) := HB3.out
    have HG4 : Hid (w3.grownBy w3 none) := World.grownBy.refl _ _
    have HW4 : Hid (w3.ownsRow w3.heap.size 33 4 (.slice none ([] : List Tk).length 0) ([] : List Tk).length (tcells [])) := World.ownsRow_nil _ _ _ _
    have HAL0 : Hid (∀ q, (Value.slice ao 0 cv).ownBlock = some q → w.heap.size ≤ q ∧ q < W1.heap.size) := HAL.out
    clear HT HA1 HAA HAB HBR HB3 HA3 HLX HST HAL
    go_wp2_with fail
    clear p0 p1 p2 q0 q1 q2
    go_loopw [8] (fun y wr => y = .int .i64 0 ∧ Hid (wr = w3)) (fun _ _ => 0)
    case atStart => exact ⟨rfl, rfl⟩
    case round =>
      obtain ⟨rfl, HX⟩ := hrel
      have hX := HX.out
      subst hX
      clear HX
      go_wp2_with (at_builtin; refine wpList_append_own_at _ rfl _ _ 22 rfl w.heap.size 33 i0 (.agg #[.int .i64 0, .string ⟨#[]⟩, .int .i64 0, .int .i64 0]) 4 40 Tryd.underlying22 hi hz0 hz1 hz2 rfl (by decide) _ _ _ rfl (World.ownsRow.alloc HA4.out _) ⟨wr.heap.size, 0, none⟩ 2 2 [.int .i64 0, .string ⟨#[]⟩, .int .i64 0, .int .i64 0, .int .i64 0, .string ⟨#[]⟩, .int .i64 0, .int .i64 0] rfl rfl (row_eight _ [.int .i64 0, .string ⟨#[]⟩, .int .i64 0, .int .i64 0, .int .i64 0, .string ⟨#[]⟩, .int .i64 0, .int .i64 0] rfl _) news_one (by unfold maxLen; omega) (by omega) (by simp; omega) ?_; intro v' w5 hown' hgrow5 hnil5 hat5; obtain ⟨g5, cap5, rfl⟩ := tok_slice2 (n := 0) hown'; obtain ⟨⟨u5, hc5⟩, hf5, hx5⟩ := tok_fin (ts := []) (ys := []) hs1 hs3 HAL0.out HW3.out HB4.out HG4.out HW4.out (World.grownBy.refl _ _) hown' hgrow5 hat5; have HX5 : Hid (Below w.heap.size w (w5.setCell ⟨g5, 0, none⟩ (.int .i64 99))) := hx5.1; clear hx5 hown' hgrow5 hnil5 hat5)
      generalize hW5 : w5.setCell ⟨g5, 0, none⟩ (.int .i64 99) = W5 at *
      clear hc5 hf5 hW5
      obtain ⟨Wx, hWx⟩ : ∃ x, x = wr := ⟨wr, rfl⟩
      subst hWx
      go_loopw [9] (fun y wr => y = .int .i64 0 ∧ Hid (wr = W5)) (fun _ _ => 0)
      case atStart => exact ⟨rfl, rfl⟩
      case round =>
        obtain ⟨rfl, HQ⟩ := hrel
        have hQ := HQ.out
        subst hQ
        clear HQ
        obtain ⟨W5, hWy⟩ : ∃ x, x = wr := ⟨wr, rfl⟩
        subst hWy
        have hw5 : w.heap.size ≤ W5.heap.size := HX5.out.size
        go_wp2_with (first | (at_make; refine wpList_make_full _ rfl _ _ 22 rfl w.heap.size 33 i0 (.agg #[.int .i64 0, .string ⟨#[]⟩, .int .i64 0, .int .i64 0]) 4 Tryd.underlying22 hi hz0 hz1 .i64 .i64 _ _ 1 rfl rfl rfl rfl (by rw [hz2]; omega) (by unfold maxLen; omega) hw5 ?_; intro w6 hM6 hg6; obtain ⟨cur, hh6, hz6⟩ := made_row hM6; have HG6 : Hid ((W5.drewN 0).grownBy w6 none) := hg6; have HH6 : Hid (w6.heap[W5.heap.size]? = some (.cells cur 33 (0, 0)) ∧ cur.size = (([] : List Tk).length + 1) * 4) := ⟨hh6, hz6⟩; clear hM6 hg6 hh6 hz6) | (refine wpList_copy_toks rfl _ _ _ _ rfl 33 Tryd.underlying22 HSZ.out W5.heap.size 1 1 none 0 0 rfl rfl (by omega) cur 33 HH6.out.1 (tcells []) rfl (.inl ⟨rfl, rfl, rfl⟩) (by rw [HH6.out.2]; decide) (fun v hv => by cases hv) ?_; intro w7 HH7; obtain ⟨C, hC, hCz, hCt, ⟨u0, u1, u2, u3, k0, k1, k2, k3⟩, kf⟩ := copied (ts := []) HH7.out.1 HH6.out.2; have HC7 : Hid (w7.heap[W5.heap.size]? = some (.cells C 33 (0, 0)) ∧ C.size = (([] : List Tk).length + 1) * 4 ∧ C.toList.take (([] : List Tk).length * 4) = tcells []) := ⟨hC, hCz, hCt⟩; have j0 : w7.cell? ⟨W5.heap.size, 0, none⟩ = some u0 := k0; have j1 : w7.cell? ⟨W5.heap.size, 1, none⟩ = some u1 := k1; have j2 : w7.cell? ⟨W5.heap.size, 2, none⟩ = some u2 := k2; have j3 : w7.cell? ⟨W5.heap.size, 3, none⟩ = some u3 := k3; clear hC hCz hCt HH6 k0 k1 k2 k3))
        obtain ⟨s1, s2, s3⟩ := spare_fin (ts := []) HC7.out.1 HC7.out.2.1 HC7.out.2.2 (.int .i64 0) (.string ⟨#[115, 112, 97, 114, 101]⟩) (.int .i64 0) (.int .i64 0)
        obtain ⟨kp1, kp2⟩ := spare_keep HG6.out HH7.out.2 s3
        have HB8 : Hid (Below w.heap.size w ((((w7.setCell ⟨W5.heap.size, 0, none⟩ (.int .i64 0)).setCell ⟨W5.heap.size, 1, none⟩ (.string ⟨#[115, 112, 97, 114, 101]⟩)).setCell ⟨W5.heap.size, 2, none⟩ (.int .i64 0)).setCell ⟨W5.heap.size, 3, none⟩ (.int .i64 0))) := kp2 HX5.out hw5
        have HL8 : Hid (TLies ((((w7.setCell ⟨W5.heap.size, 0, none⟩ (.int .i64 0)).setCell ⟨W5.heap.size, 1, none⟩ (.string ⟨#[115, 112, 97, 114, 101]⟩)).setCell ⟨W5.heap.size, 2, none⟩ (.int .i64 0)).setCell ⟨W5.heap.size, 3, none⟩ (.int .i64 0)) (.slice (some ⟨W5.heap.size, 0, none⟩) 0 1) (([] : List Tk).map Tk.j)) := ⟨some ⟨W5.heap.size, 0, none⟩, 1, rfl, fun h => absurd rfl h⟩
        have HS8 : Hid (((((w7.setCell ⟨W5.heap.size, 0, none⟩ (.int .i64 0)).setCell ⟨W5.heap.size, 1, none⟩ (.string ⟨#[115, 112, 97, 114, 101]⟩)).setCell ⟨W5.heap.size, 2, none⟩ (.int .i64 0)).setCell ⟨W5.heap.size, 3, none⟩ (.int .i64 0)).cell? ⟨W5.heap.size, 1, none⟩ = some (.string ⟨#[115, 112, 97, 114, 101]⟩) ∧ W5.heap.size < ((((w7.setCell ⟨W5.heap.size, 0, none⟩ (.int .i64 0)).setCell ⟨W5.heap.size, 1, none⟩ (.string ⟨#[115, 112, 97, 114, 101]⟩)).setCell ⟨W5.heap.size, 2, none⟩ (.int .i64 0)).setCell ⟨W5.heap.size, 3, none⟩ (.int .i64 0)).heap.size) := ⟨s2, World.block_lt_of_cell? _ _ s2⟩
        clear s1 s2 s3 kp1 kp2 j0 j1 j2 j3 kf
        generalize ((((w7.setCell ⟨W5.heap.size, 0, none⟩ (.int .i64 0)).setCell ⟨W5.heap.size, 1, none⟩ (.string ⟨#[115, 112, 97, 114, 101]⟩)).setCell ⟨W5.heap.size, 2, none⟩ (.int .i64 0)).setCell ⟨W5.heap.size, 3, none⟩ (.int .i64 0)) = W8 at *
        refine (HSH.out _ _ HB8.out HL8.out).mono ?_
        rintro e w9 ⟨rfl, b9⟩
        have HB9 : Hid (Below w.heap.size w w9) := HB8.out.trans (b9.mono HB8.out.size)
        have hsp : w9.cell? ⟨W5.heap.size, 1, none⟩ = some (.string ⟨#[115, 112, 97, 114, 101]⟩) := (b9.cell (p := ⟨W5.heap.size, 1, none⟩) HS8.out.2).trans HS8.out.1
        clear b9
        have hq9 : ((⟨#[115, 112, 97, 114, 101]⟩ : ByteArray).toList == [115, 112, 97, 114, 101]) = true := by decide +kernel
        go_wp2_with fail
        go_loopw [11] (fun y wr => y = .int .i64 0 ∧ Hid (wr = w9)) (fun _ _ => 0)
        case atStart => exact ⟨rfl, rfl⟩
        case round =>
          obtain ⟨rfl, HQ⟩ := hrel
          have hQ := HQ.out
          subst hQ
          clear HQ
          go_wp2_with fail
          go_ret
          exact ⟨by first | rfl | simp, HB9.out⟩
  · obtain ⟨⟨gb, ob, spb⟩, rfl⟩ := Option.ne_none_iff_exists'.1 hbo
    obtain ⟨rfl, rfl⟩ : ob = 0 ∧ spb = none := by
      rcases HB3.out.2 with ⟨h, _⟩ | ⟨g, cap, cur, h, _⟩
      · cases h
      · cases h; exact ⟨rfl, rfl⟩
    have HBC : Hid (∀ j u, (tcells ts)[j]? = some u → w3.cell? ((⟨gb, 0, none⟩ : Addr).add j) = some u) := HB3.out.cells rfl
    clear hbo
    go_wp2_with (at_builtin; refine wpList_append_own_at _ rfl _ _ 22 rfl w3.heap.size 33 i0 (.agg #[.int .i64 0, .string ⟨#[]⟩, .int .i64 0, .int .i64 0]) 4 40 Tryd.underlying22 hi hz0 hz1 hz2 rfl (by decide) _ _ _ rfl (World.ownsRow_nil _ _ _ _) ⟨gb, 0, none⟩ ts.length cb (tcells ts) rfl (by rw [HLX.out]) HBC.out HST.out (by unfold maxLen; omega) (by omega) (Nat.le_refl _) ?_; intro vW w4 hW4 hg4 hn4 hat4; obtain ⟨wo, cw, rfl, hW4'⟩ := tok_slice0 hW4; have HA4 : Hid (w4.ownsRow w.heap.size 33 4 (.slice ao ts.length cv) ts.length (tcells ts)) := tok_apart HA3.out hg4 (fun q hq => by cases hq); have HW4 : Hid (w4.ownsRow w3.heap.size 33 4 (.slice wo ts.length cw) ts.length (tcells ts)) := hW4'; have HG4 : Hid (w3.grownBy w4 none) := hg4; clear hW4 hW4' hg4 hn4 hat4)
    clear p0 p1 p2 q0 q1 q2
    have hs4 : w3.heap.size ≤ w4.heap.size := HG4.out.size
    go_loopw [8] (fun y wr => ∃ (k : Nat) (ys : List Value), k ≤ ts.length ∧ y = .int .i64 k ∧ Hid (ys.length = ts.length * 4 ∧ wr.ownsRow w.heap.size 33 4 (.slice ao ts.length cv) ts.length ys ∧ w4.grownBy wr (Value.slice ao ts.length cv).ownBlock)) (fun y _ => ts.length - (intOf y).toNat)
    case atStart => exact ⟨0, tcells ts, Nat.zero_le _, rfl, HLX.out, HA4.out, World.grownBy.refl _ _⟩
    case round =>
      obtain ⟨k, ys, hk, rfl, HX⟩ := hrel
      by_cases hlt : k < ts.length
      · obtain ⟨g, cap, hv, hgl, hgr⟩ := tok_form HX.out.2.1 (by omega)
        obtain ⟨rfl, rfl⟩ : ao = some ⟨g, 0, none⟩ ∧ cv = cap := by cases hv; exact ⟨rfl, rfl⟩
        have hck : wr.cell? ⟨g, k * 4 + 1, none⟩ = ys[k * 4 + 1]? := HX.out.2.1.cellAt (k * 4 + 1) (by omega)
        have hyk : ys[k * 4 + 1]? = some (ys[k * 4 + 1]'(by have := HX.out.1; omega)) := List.getElem?_eq_getElem _
        rw [hyk] at hck
        have hfk := HX.out.2.1.frozenAt (k * 4 + 1)
        have HS := HX.out.2.1.stored (k * 4 + 1) (.string ⟨#[63]⟩)
        have HNX : Hid ((ys.set (k * 4 + 1) (.string ⟨#[63]⟩)).length = ts.length * 4 ∧ (wr.setCell ⟨g, k * 4 + 1, none⟩ (.string ⟨#[63]⟩)).ownsRow w.heap.size 33 4 (.slice (some ⟨g, 0, none⟩) ts.length cv) ts.length (ys.set (k * 4 + 1) (.string ⟨#[63]⟩)) ∧ w4.grownBy (wr.setCell ⟨g, k * 4 + 1, none⟩ (.string ⟨#[63]⟩)) (Value.slice (some ⟨g, 0, none⟩) ts.length cv).ownBlock) := ⟨by rw [List.length_set]; exact HX.out.1, HS.1, HX.out.2.2.trans HS.2⟩
        have hlt2 : (k : Int) < (ts.length : Int) := by omega
        clear hv hyk HS
        go_wp2_with fail
        go_roundw
        case rel => exact ⟨k + 1, _, by omega, by go_num, HNX.out⟩
        case measure => simp [intOf]; omega
      · have hlt2 : ¬ (k : Int) < (ts.length : Int) := by omega
        have hsr : w4.heap.size ≤ wr.heap.size := HX.out.2.2.size
        go_wp2_with (at_builtin; refine wpList_append_own_at _ rfl _ _ 22 rfl w.heap.size 33 i0 (.agg #[.int .i64 0, .string ⟨#[]⟩, .int .i64 0, .int .i64 0]) 4 40 Tryd.underlying22 hi hz0 hz1 hz2 rfl (by decide) _ _ _ rfl (HX.out.2.1.alloc _) ⟨wr.heap.size, 0, none⟩ 2 2 [.int .i64 0, .string ⟨#[]⟩, .int .i64 0, .int .i64 0, .int .i64 0, .string ⟨#[]⟩, .int .i64 0, .int .i64 0] rfl rfl (row_eight _ [.int .i64 0, .string ⟨#[]⟩, .int .i64 0, .int .i64 0, .int .i64 0, .string ⟨#[]⟩, .int .i64 0, .int .i64 0] rfl _) news_one (by unfold maxLen; omega) (by omega) (by simp; omega) ?_; intro v' w5 hown' hgrow5 hnil5 hat5; obtain ⟨g5, cap5, rfl⟩ := tok_slice2 hown'; obtain ⟨⟨u5, hc5⟩, hf5, hx5⟩ := tok_fin hs1 hs3 HAL.out HW3.out HB3.out HG4.out HW4.out HX.out.2.2 hown' hgrow5 hat5; have HX5 : Hid _ := hx5; clear hx5 hown' hgrow5 hnil5 hat5)
        generalize hW5 : w5.setCell ⟨g5, 0, none⟩ (.int .i64 99) = W5 at *
        clear hc5 hf5 hW5
        obtain ⟨Wx, hWx⟩ : ∃ x, x = wr := ⟨wr, rfl⟩
        subst hWx
        go_loopw [9] (fun y wr => ∃ k : Nat, k ≤ ts.length ∧ y = .int .i64 k ∧ Hid (∃ m, wr = W5.drewN m)) (fun y _ => ts.length - (intOf y).toNat)
        case atStart => exact ⟨0, Nat.zero_le _, rfl, 0, rfl⟩
        case round =>
          obtain ⟨j, hj, rfl, HQ⟩ := hrel
          by_cases hjn : j < ts.length
          · obtain ⟨gb, gw, e1, e2, r1, r2⟩ := HX5.out.2.1 j ts[j] (List.getElem?_eq_getElem hjn)
            cases e1
            cases e2
            obtain ⟨y0, y1, y2, y3⟩ := r1
            obtain ⟨z0, z1, z2, z3⟩ := r2
            obtain ⟨m5, rfl⟩ := HQ.out
            generalize ts[j] = t at *
            have hq : (t.text.toList == t.text.toList) = true := by simp
            have hlt3 : (j : Int) < (ts.length : Int) := by omega
            go_wp2_with fail
            go_quiet (fail)
            go_wp2_with fail
            go_roundw
            case rel => exact ⟨j + 1, by omega, by go_num, m5 + nq, rfl⟩
            case measure => simp [intOf]; omega
          · obtain ⟨m5, rfl⟩ := HQ.out
            have hlt3 : ¬ (j : Int) < (ts.length : Int) := by omega
            have hw5 : w.heap.size ≤ W5.heap.size := HX5.out.1.size
            go_wp2_with (first | (at_make; refine wpList_make_full _ rfl _ _ 22 rfl w.heap.size 33 i0 (.agg #[.int .i64 0, .string ⟨#[]⟩, .int .i64 0, .int .i64 0]) 4 Tryd.underlying22 hi hz0 hz1 .i64 .i64 _ _ (ts.length + 1) rfl rfl (by omega) (by omega) (by rw [hz2]; omega) (by unfold maxLen; omega) hw5 ?_; intro w6 hM6 hg6; obtain ⟨cur, hh6, hz6⟩ := made_row hM6; have HG6 : Hid ((W5.drewN m5).grownBy w6 none) := hg6; have HH6 : Hid (w6.heap[W5.heap.size]? = some (.cells cur 33 (0, 0)) ∧ cur.size = (ts.length + 1) * 4) := ⟨hh6, hz6⟩; have HBX : Hid (∀ j v, (tcells ts)[j]? = some v → w6.cell? ((⟨gb, 0, none⟩ : Addr).add j) = some v) := (World.ownsRow.kept (w := W5.drewN m5) HX5.out.2.2 hg6 (.inr (by simp [Value.ownBlock]))).cells rfl; clear hM6 hg6 hh6 hz6) | (refine wpList_copy_toks rfl _ _ _ _ rfl 33 Tryd.underlying22 HSZ.out W5.heap.size (ts.length + 1) (ts.length + 1) (some ⟨gb, 0, none⟩) ts.length cb rfl rfl (by omega) cur 33 HH6.out.1 (tcells ts) HLX.out (.inr ⟨_, rfl, HBX.out⟩) (by rw [HLX.out, HH6.out.2]; omega) HST.out ?_; intro w7 HH7; obtain ⟨C, hC, hCz, hCt, ⟨u0, u1, u2, u3, k0, k1, k2, k3⟩, kf⟩ := copied HH7.out.1 HH6.out.2; have HC7 : Hid (w7.heap[W5.heap.size]? = some (.cells C 33 (0, 0)) ∧ C.size = (ts.length + 1) * 4 ∧ C.toList.take (ts.length * 4) = tcells ts) := ⟨hC, hCz, hCt⟩; clear hC hCz hCt HH6 HBX))
            obtain ⟨s1, s2, s3⟩ := spare_fin HC7.out.1 HC7.out.2.1 HC7.out.2.2 (.int .i64 0) (.string ⟨#[115, 112, 97, 114, 101]⟩) (.int .i64 0) (.int .i64 0)
            obtain ⟨kp1, kp2⟩ := spare_keep HG6.out HH7.out.2 s3
            have HB8 : Hid (Below w.heap.size w ((((w7.setCell ⟨W5.heap.size, ts.length * 4, none⟩ (.int .i64 0)).setCell ⟨W5.heap.size, ts.length * 4 + 1, none⟩ (.string ⟨#[115, 112, 97, 114, 101]⟩)).setCell ⟨W5.heap.size, ts.length * 4 + 2, none⟩ (.int .i64 0)).setCell ⟨W5.heap.size, ts.length * 4 + 3, none⟩ (.int .i64 0))) := kp2 HX5.out.1 hw5
            have HL8 : Hid (TLies ((((w7.setCell ⟨W5.heap.size, ts.length * 4, none⟩ (.int .i64 0)).setCell ⟨W5.heap.size, ts.length * 4 + 1, none⟩ (.string ⟨#[115, 112, 97, 114, 101]⟩)).setCell ⟨W5.heap.size, ts.length * 4 + 2, none⟩ (.int .i64 0)).setCell ⟨W5.heap.size, ts.length * 4 + 3, none⟩ (.int .i64 0)) (.slice (some ⟨W5.heap.size, 0, none⟩) ts.length (ts.length + 1)) (ts.map Tk.j)) := tlies_of (by omega) s1
            have HS8 : Hid ((∀ j t, ts[j]? = some t → TokAt ((((w7.setCell ⟨W5.heap.size, ts.length * 4, none⟩ (.int .i64 0)).setCell ⟨W5.heap.size, ts.length * 4 + 1, none⟩ (.string ⟨#[115, 112, 97, 114, 101]⟩)).setCell ⟨W5.heap.size, ts.length * 4 + 2, none⟩ (.int .i64 0)).setCell ⟨W5.heap.size, ts.length * 4 + 3, none⟩ (.int .i64 0)) W5.heap.size j t ∧ ∃ gw, wo = some ⟨gw, 0, none⟩ ∧ TokAt ((((w7.setCell ⟨W5.heap.size, ts.length * 4, none⟩ (.int .i64 0)).setCell ⟨W5.heap.size, ts.length * 4 + 1, none⟩ (.string ⟨#[115, 112, 97, 114, 101]⟩)).setCell ⟨W5.heap.size, ts.length * 4 + 2, none⟩ (.int .i64 0)).setCell ⟨W5.heap.size, ts.length * 4 + 3, none⟩ (.int .i64 0)) gw j t) ∧ ((((w7.setCell ⟨W5.heap.size, ts.length * 4, none⟩ (.int .i64 0)).setCell ⟨W5.heap.size, ts.length * 4 + 1, none⟩ (.string ⟨#[115, 112, 97, 114, 101]⟩)).setCell ⟨W5.heap.size, ts.length * 4 + 2, none⟩ (.int .i64 0)).setCell ⟨W5.heap.size, ts.length * 4 + 3, none⟩ (.int .i64 0)).cell? ⟨W5.heap.size, ts.length * 4 + 1, none⟩ = some (.string ⟨#[115, 112, 97, 114, 101]⟩) ∧ W5.heap.size < ((((w7.setCell ⟨W5.heap.size, ts.length * 4, none⟩ (.int .i64 0)).setCell ⟨W5.heap.size, ts.length * 4 + 1, none⟩ (.string ⟨#[115, 112, 97, 114, 101]⟩)).setCell ⟨W5.heap.size, ts.length * 4 + 2, none⟩ (.int .i64 0)).setCell ⟨W5.heap.size, ts.length * 4 + 3, none⟩ (.int .i64 0)).heap.size) := ⟨fun j t hj => ⟨s1 j t hj, by
              obtain ⟨gb', gw, e1, e2, r1, r2⟩ := HX5.out.2.1 j t hj
              exact ⟨gw, e2, r2.same (kp1 gw r2.lt)⟩⟩, s2, World.block_lt_of_cell? _ _ s2⟩
            clear s1 s2 s3 kp1 kp2 k0 k1 k2 k3 kf
            generalize ((((w7.setCell ⟨W5.heap.size, ts.length * 4, none⟩ (.int .i64 0)).setCell ⟨W5.heap.size, ts.length * 4 + 1, none⟩ (.string ⟨#[115, 112, 97, 114, 101]⟩)).setCell ⟨W5.heap.size, ts.length * 4 + 2, none⟩ (.int .i64 0)).setCell ⟨W5.heap.size, ts.length * 4 + 3, none⟩ (.int .i64 0)) = W8 at *
            refine (HSH.out _ _ HB8.out HL8.out).mono ?_
            rintro e w9 ⟨rfl, b9⟩
            have HB9 : Hid (Below w.heap.size w w9) := HB8.out.trans (b9.mono HB8.out.size)
            have HS9 : Hid (∀ j t, ts[j]? = some t → TokAt w9 W5.heap.size j t ∧ ∃ gw, wo = some ⟨gw, 0, none⟩ ∧ TokAt w9 gw j t) := fun j t hj => by
              obtain ⟨r1, gw, e2, r2⟩ := HS8.out.1 j t hj
              exact ⟨r1.same (b9.block _ r1.lt), gw, e2, r2.same (b9.block _ r2.lt)⟩
            have hsp : w9.cell? ⟨W5.heap.size, ts.length * 4 + 1, none⟩ = some (.string ⟨#[115, 112, 97, 114, 101]⟩) := (b9.cell (p := ⟨W5.heap.size, ts.length * 4 + 1, none⟩) HS8.out.2.2).trans HS8.out.2.1
            clear b9
            go_wp2_with fail
            go_loopw [11] (fun y wr => ∃ k : Nat, k ≤ ts.length ∧ y = .int .i64 k ∧ Hid (∃ m, wr = w9.drewN m)) (fun y _ => ts.length - (intOf y).toNat)
            case atStart => exact ⟨0, Nat.zero_le _, rfl, 0, rfl⟩
            case round =>
              obtain ⟨j9, hj9, rfl, HQ9⟩ := hrel
              by_cases hjn9 : j9 < ts.length
              · obtain ⟨r1, gw, e2, r2⟩ := HS9.out j9 ts[j9] (List.getElem?_eq_getElem hjn9)
                cases e2
                obtain ⟨y0, y1, y2, y3⟩ := r1
                obtain ⟨z0, z1, z2, z3⟩ := r2
                obtain ⟨m9, rfl⟩ := HQ9.out
                generalize ts[j9] = t at *
                have hq : (t.text.toList == t.text.toList) = true := by simp
                have hlt9 : (j9 : Int) < (ts.length : Int) := by omega
                go_wp2_with fail
                go_quiet (fail)
                go_wp2_with fail
                go_roundw
                case rel => exact ⟨j9 + 1, by omega, by go_num, m9 + nq, rfl⟩
                case measure => simp [intOf]; omega
              · obtain ⟨m9, rfl⟩ := HQ9.out
                have hlt9 : ¬ (j9 : Int) < (ts.length : Int) := by omega
                have hq9 : ((⟨#[115, 112, 97, 114, 101]⟩ : ByteArray).toList == [115, 112, 97, 114, 101]) = true := by decide +kernel
                go_wp2_with fail
                go_ret
                exact ⟨by first | rfl | simp, HB9.out.os, HB9.out.tape, HB9.out.output, HB9.out.size, HB9.out.block⟩
end Go.Proofs.YtljdfaoplenloaaDoor
