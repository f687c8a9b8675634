/- The order of calls that are kept by bits. -/
import Derived.Test.YtiaoidbhdkldlabCbits
namespace Go.Proofs.Ytiaoidbhdkldlab
open Go.ChangeShapes Go.WideShapes Go.ChangeAt Go.RowKit
set_option maxRecDepth 100000
set_option linter.unusedSimpArgs false
set_option linter.unusedVariables false
/-- The room of the kept calls, one for each bit. -/
structure KA (A B : Nat) (ks : List Ce) (u : World) : Prop where
  blk : u.heap[A]? = some (.cells (ccells ks).toArray 52 (0, 0))
  len : ks.length = 8
  lies : ∀ e ∈ ks, IOwn B u e.L e.x.args
theorem KA.below {A B : Nat} {ks : List Ce} {u u' : World} (h : KA A B ks u) (hb : Below u.heap.size u u') : KA A B ks u' :=
  ⟨by rw [hb.block _ (Array.getElem?_eq_some_iff.1 h.blk).1]; exact h.blk, h.len, fun e he => (h.lies e he).below hb⟩
theorem KA.cells {A B s : Nat} {ks : List Ce} {u : World} {e : Ce} (h : KA A B ks u) (hk : ks[s]? = some e) : (u.cell? ⟨A, s * 3, none⟩ = some (.int .i64 e.x.site) ∧ u.cell? ⟨A, s * 3 + 1, none⟩ = some (.int .i64 e.x.fn) ∧ u.cell? ⟨A, s * 3 + 2, none⟩ = some e.L) ∧ u.frozen? ⟨A, s * 3, none⟩ = false ∧ u.frozen? ⟨A, s * 3 + 1, none⟩ = false ∧ u.frozen? ⟨A, s * 3 + 2, none⟩ = false := by
  have h0 := ccells_get ks s 0 e (by decide) hk
  have h1 := ccells_get ks s 1 e (by decide) hk
  have h2 := ccells_get ks s 2 e (by decide) hk
  rw [Nat.add_zero] at h0
  have hb := h.blk
  refine ⟨⟨?_, ?_, ?_⟩, ?_, ?_, ?_⟩
  · simp only [World.cell?, hb]; simpa [Ce.cells] using h0
  · simp only [World.cell?, hb]; simpa [Ce.cells] using h1
  · simp only [World.cell?, hb]; simpa [Ce.cells] using h2
  · simp [World.frozen?, hb]
  · simp [World.frozen?, hb]
  · simp [World.frozen?, hb]
theorem KA.put {A B s : Nat} {ks : List Ce} {u : World} {c : Cc} {L : Value} (h : KA A B ks u) (hs : s < 8) (hA : A < B) (hl : IOwn B u L c.args) :
    KA A B (ks.set s ⟨c, L⟩) (((u.setCell ⟨A, s * 3, none⟩ (.int .i64 c.site)).setCell ⟨A, s * 3 + 1, none⟩ (.int .i64 c.fn)).setCell ⟨A, s * 3 + 2, none⟩ L) := by
  have oth : ∀ g, B ≤ g → (((u.setCell ⟨A, s * 3, none⟩ (.int .i64 c.site)).setCell ⟨A, s * 3 + 1, none⟩ (.int .i64 c.fn)).setCell ⟨A, s * 3 + 2, none⟩ L).heap[g]? = u.heap[g]? := fun g hg => by
    rw [heap_setCell_other _ _ _ _ (by simp; omega), heap_setCell_other _ _ _ _ (by simp; omega), heap_setCell_other _ _ _ _ (by simp; omega)]
  refine ⟨?_, by rw [List.length_set]; exact h.len, fun e he => ?_⟩
  · have h1 := heap_setCell_same u A (s * 3) _ 52 (.int .i64 c.site) h.blk
    have h2 := heap_setCell_same _ A (s * 3 + 1) _ 52 (.int .i64 c.fn) h1
    have h3 := heap_setCell_same _ A (s * 3 + 2) _ 52 L h2
    rw [h3, ccells_set ks s ⟨c, L⟩ (by rw [h.len]; exact hs)]
    simp
  · rcases List.mem_or_eq_of_mem_set he with h1 | h1
    · exact row_oth (h.lies e h1) oth
    · subst h1; exact row_oth hl oth
theorem KA.new (w : World) : KA w.heap.size (w.heap.size + 1) (List.replicate 8 zeroE) (w.alloc (.cells (ccells (List.replicate 8 zeroE)).toArray 52)) :=
  ⟨by show (w.heap.push _)[w.heap.size]? = _; exact Array.getElem?_push_size, rfl, fun e he => by rw [List.eq_of_mem_replicate he]; exact IOwn.nil _ _⟩
theorem KA.grown {A B : Nat} {ks : List Ce} {u u' : World} {row : Option Nat} (h : KA A B ks u) (hg : u.grownBy u' row) (ht : ∀ g, row = some g → ∃ cs z, u.heap[g]? = some (.cells cs 25 z)) : KA A B ks u' := by
  refine ⟨?_, h.len, fun e he => iown_grown (h.lies e he) hg ht⟩
  rw [hg.block A (Array.getElem?_eq_some_iff.1 h.blk).1 (fun e => ?_)]
  · exact h.blk
  · obtain ⟨cs, z, h2⟩ := ht A e.symm
    rw [h.blk] at h2
    simp at h2
def lenOf : Value → Nat
  | .slice _ n _ => n
  | _ => 0
/-- Each of the first k stands in the room of its bit. -/
def Stand (cs : List Cc) (k : Nat) (ks : List Ce) : Prop := ∀ j c, j < k → cs[j]? = some c → ∃ L, ks[c.site.toNat]? = some ⟨c, L⟩
theorem Stand.more {cs : List Cc} {k : Nat} {ks : List Ce} {c : Cc} {L : Value} (h : Stand cs k ks) (hr : Rise cs (k + 1)) (hk : cs[k]? = some c) (hl : ks.length = 8) : Stand cs (k + 1) (ks.set c.site.toNat ⟨c, L⟩) := fun j d hj hd => by
  have hc := hr k c (by omega) hk
  rcases Nat.lt_or_ge j k with h2 | h2
  · obtain ⟨M, hM⟩ := h j d h2 hd
    have h3 := hr.lt k j d c h2 (by omega) hd hk
    have h4 := (hr j d hj hd).1
    exact ⟨M, by rw [List.getElem?_set_ne (by omega)]; exact hM⟩
  · have : j = k := by omega
    subst this
    rw [hk] at hd; cases hd
    exact ⟨L, List.getElem?_set_self (by omega)⟩
theorem not_rise {cs : List Cc} {k n : Nat} (h : ¬ Rise cs (k + 1)) (hk : k < n) : ¬ Rise cs n := fun h2 => h (h2.less (by omega))
/-- What Top says ahead of the call k, and what follows of it. -/
theorem top_says {cs : List Cc} {k : Nat} {c : Cc} (h : Rise cs k) (hk : cs[k]? = some c) : ∃ tp sm, topR (maskAt cs k : Int) = (tp, sm) ∧ (sm = true → c.site ≤ tp → ¬ Rise cs (k + 1)) ∧ ((sm = true → tp < c.site) → ∀ p, 0 < k → cs[k - 1]? = some p → p.site < c.site) := by
  have hkl := (List.getElem?_eq_some_iff.1 hk).1
  have ht := top_at h (by omega)
  by_cases h0 : k = 0
  · rw [if_pos h0] at ht
    exact ⟨0, false, ht, (fun h => by cases h), (fun _ p hp => by omega)⟩
  · obtain ⟨p, hp⟩ : ∃ p, cs[k - 1]? = some p := ⟨_, List.getElem?_eq_getElem (by omega)⟩
    rw [if_neg h0, hp] at ht
    refine ⟨p.site, true, ht, fun _ hle hr => ?_, fun hlt q _ hq => ?_⟩
    · have := (hr k c (by omega) hk).2.2 p (by omega) hp
      omega
    · rw [hp] at hq; cases hq
      exact hlt rfl
theorem drop_rev {cs : List Cc} {i : Nat} {c : Cc} (h : cs[i]? = some c) : (cs.drop (i + 1)).reverse ++ [c] = (cs.drop i).reverse := by
  have hl := (List.getElem?_eq_some_iff.1 h).1
  have he := (List.getElem?_eq_some_iff.1 h).2
  rw [List.drop_eq_getElem_cons hl, List.reverse_cons, he]
set_option maxHeartbeats 4000000 in
theorem own_bits (v : Value) (es : List Ce) (cs : List Cc) (w : World) (hv : CSrc w v es cs) (hc : COk cs) :
    Calls Try.prog 26 #[v] w fun e w' => ((Rise cs cs.length ∧ ∃ v' ms, e = .returned (.tuple #[v', .int .i64 0]) ∧ CRow (w.heap.size + 1) w' v' ms cs.reverse) ∨ (¬ Rise cs cs.length ∧ e = .returned (.tuple #[.slice none 0 0, .int .i64 14]))) ∧ Below w.heap.size w w' := by
  obtain ⟨lo, lc, rfl⟩ := hv.row.shape
  have hsz : es.length ≤ 3518437208800 := by rw [hv.len]; exact hc.size
  have HX : Hid (∀ k (h1 : k < es.length), ∃ b1 o1 c L, lo = some ⟨b1, o1, none⟩ ∧ cs[k]? = some c ∧ c.args.length * 8 ≤ 140737488355328 ∧ (∃ ao cap, L = .slice ao c.args.length cap) ∧ ∀ u, Below w.heap.size w u → (u.cell? ⟨b1, o1 + k * 3, none⟩ = some (.int .i64 c.site) ∧ u.cell? ⟨b1, o1 + k * 3 + 1, none⟩ = some (.int .i64 c.fn) ∧ u.cell? ⟨b1, o1 + k * 3 + 2, none⟩ = some L) ∧ ILies u L c.args) := fun k h1 => by
    obtain ⟨b1, o1, c1, e1, x0, x1, x2⟩ := hv.row.at h1
    cases e1
    have h2 : k < cs.length := by rw [← hv.len]; exact h1
    have h3 := hv.one h1 h2
    have hl := hv.lies es[k] (List.getElem_mem h1)
    rw [h3] at x0 x1 hl
    have hs := (hc.each cs[k] (List.getElem_mem h2)).sz
    exact ⟨b1, o1, cs[k], es[k].L, rfl, List.getElem?_eq_getElem h2, by omega, hl.shape, fun u hb => ⟨⟨by rw [hb.cell (World.block_lt_of_cell? _ _ x0)]; exact x0, by rw [hb.cell (World.block_lt_of_cell? _ _ x1)]; exact x1, by rw [hb.cell (World.block_lt_of_cell? _ _ x2)]; exact x2⟩, hl.below hb (Nat.le_refl _)⟩⟩
  have HLE : Hid (es.length = cs.length) := hv.len
  have HZC : Hid (cs.length ≤ 3518437208800) := hc.size
  have HNEW : Hid (KA w.heap.size (w.heap.size + 1) (List.replicate 8 zeroE) (w.alloc (.cells #[.int .i64 0, .int .i64 0, .slice none 0 0, .int .i64 0, .int .i64 0, .slice none 0 0, .int .i64 0, .int .i64 0, .slice none 0 0, .int .i64 0, .int .i64 0, .slice none 0 0, .int .i64 0, .int .i64 0, .slice none 0 0, .int .i64 0, .int .i64 0, .slice none 0 0, .int .i64 0, .int .i64 0, .slice none 0 0, .int .i64 0, .int .i64 0, .slice none 0 0] 52))) := KA.new w
  clear hv hc
  obtain ⟨i0, hi, hz0, hz1, hz2⟩ := info_parts Try.infoCallC
  go_enter Try.func26, Try.ntmps26
  go_wp2_with fail
  go_loopw [5, 17] (fun s5 s17 wr => ∃ (k : Nat) (ks : List Ce), k ≤ es.length ∧ s17 = .int .i64 k ∧ s5 = .int .i64 (maskAt cs k : Nat) ∧ Hid (Rise cs k) ∧ Hid (KA w.heap.size (w.heap.size + 1) ks wr) ∧ Hid (Stand cs k ks) ∧ Hid (Below w.heap.size w wr)) (fun _ i _ => es.length - (intOf i).toNat)
  case atStart => exact ⟨0, _, Nat.zero_le _, rfl, rfl, Rise.zero _, HNEW.out, (fun j c hj => by omega), (Below.refl _ _).alloc (Nat.le_refl _) _⟩
  case round =>
    obtain ⟨k, ks, hk, rfl, rfl, HR, HKA, HST, HB⟩ := hrel
    by_cases hlt : k < es.length
    · obtain ⟨b1, o1, ⟨st, fnn, ag⟩, L0, rfl, hck, hag, ⟨lo2, lc2, rfl⟩, hx⟩ := HX.out k hlt
      obtain ⟨⟨x0, x1, x2⟩, hil⟩ := hx wr HB.out
      have HIL : Hid (∀ u, Below w.heap.size w u → ILies u (.slice lo2 ag.length lc2) ag) := fun u h => (hx u h).2
      have hlt2 : (k : Int) < (es.length : Int) := by omega
      have HCK : Hid (cs[k]? = some ⟨st, fnn, ag⟩) := hck
      obtain ⟨tp, sm, ht, hs1, hs2⟩ := top_says HR.out hck
      have HTOP : Hid (∀ u, Calls Try.prog 22 #[.int .i64 (maskAt cs k : Nat)] u fun e w' => e = .returned (.tuple #[.int .i64 tp, .bool sm]) ∧ Below u.heap.size u w') := fun u => by
        have := own_top (maskAt cs k : Int) u
        rw [ht] at this
        exact this
      have HS1 : Hid (sm = true → st ≤ tp → ¬ Rise cs (k + 1)) := hs1
      have HS2 : Hid ((sm = true → tp < st) → ∀ p, 0 < k → cs[k - 1]? = some p → p.site < st) := hs2
      have HMEET : Hid (k < cs.length) := by rw [← HLE.out]; exact hlt
      have HAG : Hid (ag.length * 8 ≤ 140737488355328) := hag
      clear hx hil ht hs1 hs2 hck hag
      obtain ⟨wq, hwq⟩ : ∃ x, wr = x := ⟨_, rfl⟩
      subst hwq
      go_wp2_with fail
      refine (HTOP.out _).mono ?_
      rintro e u1 ⟨rfl, b1'⟩
      have hbx := box_stays b1'
      have HBX : Hid (u1.heap[wr.heap.size]? = some (.cells #[.int .i64 st, .int .i64 fnn, .slice lo2 ag.length lc2] 25 (0, 0))) := hbx
      have HB1 : Hid (Below w.heap.size w u1) := HB.out.trans ((below_up b1').mono HB.out.size)
      have HK1 : Hid (KA w.heap.size (w.heap.size + 1) ks u1) := HKA.out.below (below_up b1')
      obtain ⟨⟨c0, c1, c2⟩, f0, f1, f2⟩ := box3 hbx
      clear b1' hbx
      cases sm with
      | false =>
        by_cases hbit : 0 ≤ st ∧ st < 8
        · obtain ⟨st, rfl⟩ : ∃ s : Nat, st = s := ⟨st.toNat, by omega⟩
          have hst8 : st < 8 := by omega
          have HSET : Hid (∀ u, Calls Try.prog 21 #[.int .i64 (maskAt cs k : Nat), .int .i64 (st : Nat)] u fun e w' => e = .returned (.tuple #[.int .i64 (maskAt cs (k + 1) : Nat), .int .i64 0]) ∧ Below u.heap.size u w') := fun u => by
            have := own_set (maskAt cs k : Int) (st : Int) u
            rw [set_at (c := ⟨st, fnn, ag⟩) HR.out HCK.out hbit.1 hbit.2] at this
            exact this
          have HR2 : Hid (Rise cs (k + 1)) := HR.out.more HCK.out hbit.1 hbit.2 (HS2.out (fun h => by cases h))
          clear hbit
          go_wp2_with fail
          refine (HSET.out _).mono ?_
          rintro e u2 ⟨rfl, b2⟩
          have HB2 : Hid (Below w.heap.size w u2) := HB1.out.trans (b2.mono HB1.out.size)
          have HK2 : Hid (KA w.heap.size (w.heap.size + 1) ks u2) := HK1.out.below b2
          have HBX2 : Hid (u2.heap[wr.heap.size]? = some (.cells #[.int .i64 (st : Nat), .int .i64 fnn, .slice lo2 ag.length lc2] 25 (0, 0))) := by
            have h1 := HBX.out
            show u2.heap[wr.heap.size]? = _
            rw [b2.block _ (Array.getElem?_eq_some_iff.1 h1).1]; exact h1
          have hst9 : (st : Int) < 8 := by omega
          clear b2 c0 c1 c2 f0 f1 f2
          go_wp2_with fail
          have hl : AllStab [isV (.pointer (some ⟨wr.heap.size, 0, none⟩)), isV (.int .i64 (st : Nat)), isV (.int .i64 (maskAt cs (k + 1) : Nat)), isV (.agg #[.int .i64 (st : Nat), .int .i64 fnn, .slice lo2 ag.length lc2]), isCall (w.heap.size + 1) ⟨st, fnn, ag⟩, isV (.int .i64 (maskAt cs (k + 1) : Nat)), isV (.pointer (some ⟨w.heap.size, st * 3, none⟩)), anyV] := ⟨stab_is _, stab_is _, stab_is _, stab_is _, stab_call _, stab_is _, stab_is _, stab_any, trivial⟩
          refine wp_joint (JF [isV (.pointer (some ⟨wr.heap.size, 0, none⟩)), isV (.int .i64 (st : Nat)), isV (.int .i64 (maskAt cs (k + 1) : Nat)), isV (.agg #[.int .i64 (st : Nat), .int .i64 fnn, .slice lo2 ag.length lc2]), isCall (w.heap.size + 1) ⟨st, fnn, ag⟩, isV (.int .i64 (maskAt cs (k + 1) : Nat)), isV (.pointer (some ⟨w.heap.size, st * 3, none⟩)), anyV] ([99, 99, 99, 99, 99, 99, 99, 99].getD · 99) (fun d f u => (d 7 = true ∧ ∃ L, KA w.heap.size (w.heap.size + 1) (ks.set st ⟨⟨st, fnn, ag⟩, L⟩) u) ∨ (d 7 = false ∧ KA w.heap.size (w.heap.size + 1) ks u ∧ u.heap[wr.heap.size]? = some (.cells #[.int .i64 st, .int .i64 fnn, .slice lo2 ag.length lc2] 25 (0, 0)))) w) (by kernel_rfl) (by kernel_rfl) (by kernel_rfl) (fun f => ⟨HB2.out.drew, rfl, (fun i h _ => by cases h), .inr ⟨rfl, HK2.out.below ((Below.refl _ _).drew), by have h1 := HBX2.out; rw [((Below.refl u2.heap.size u2).drew).block _ (Array.getElem?_eq_some_iff.1 h1).1]; exact h1⟩⟩) ?_ ?_
          · refine stepsOK5_cons (fun f d u hJ hn hd hno K hK => ?_) (stepsOK5_cons (fun f d u hJ hn hd hno K hK => ?_) (stepsOK5_cons (fun f d u hJ hn hd hno K hK => ?_) (stepsOK5_cons (fun f d u hJ hn hd hno K hK => ?_) (stepsOK5_cons (fun f d u hJ hn hd hno K hK => ?_) (stepsOK5_cons (fun f d u hJ hn hd hno K hK => ?_) (stepsOK5_cons (fun f d u hJ hn hd hno K hK => ?_) (stepsOK5_cons (fun f d u hJ hn hd hno K hK => ?_) stepsOK5_nil)))))))
            · have h7 : d 7 = false := hno 7 (by kernel_rfl)
              obtain ⟨hka, hbx⟩ : KA w.heap.size (w.heap.size + 1) ks u ∧ u.heap[wr.heap.size]? = some (.cells #[.int .i64 st, .int .i64 fnn, .slice lo2 ag.length lc2] 25 (0, 0)) := by
                rcases hJ.more with ⟨h, _⟩ | ⟨_, h⟩
                · rw [h7] at h; cases h
                · exact h
              refine wanted_on rfl ?_
              simp only [putAll, Act.put, List.setIfInBounds_toArray, List.set_cons_zero, List.set_cons_succ] at hK ⊢
              go_simp
              exact hK _ _ _ rfl (hJ.grow hl (by decide) (Below.refl _ _) rfl (.inr ⟨by simp [updB, h7], hka, hbx⟩))
            · have e0 : f 0 = (.pointer (some ⟨wr.heap.size, 0, none⟩)) := hJ.at 0 (hd 0 (by kernel_rfl)) hJ.none
              have h7 : d 7 = false := hno 7 (by kernel_rfl)
              obtain ⟨hka, hbx⟩ : KA w.heap.size (w.heap.size + 1) ks u ∧ u.heap[wr.heap.size]? = some (.cells #[.int .i64 st, .int .i64 fnn, .slice lo2 ag.length lc2] 25 (0, 0)) := by
                rcases hJ.more with ⟨h, _⟩ | ⟨_, h⟩
                · rw [h7] at h; cases h
                · exact h
              obtain ⟨⟨c0, c1, c2⟩, f0, f1, f2⟩ := box3 hbx
              refine wanted_on rfl ?_
              simp only [putAll, Act.put, List.setIfInBounds_toArray, List.set_cons_zero, List.set_cons_succ, e0] at hK ⊢
              go_simp
              exact hK _ _ _ rfl (hJ.grow hl (by decide) (Below.refl _ _) rfl (.inr ⟨by simp [updB, h7], hka, hbx⟩))
            · have h7 : d 7 = false := hno 7 (by kernel_rfl)
              obtain ⟨hka, hbx⟩ : KA w.heap.size (w.heap.size + 1) ks u ∧ u.heap[wr.heap.size]? = some (.cells #[.int .i64 st, .int .i64 fnn, .slice lo2 ag.length lc2] 25 (0, 0)) := by
                rcases hJ.more with ⟨h, _⟩ | ⟨_, h⟩
                · rw [h7] at h; cases h
                · exact h
              refine wanted_on rfl ?_
              simp only [putAll, Act.put, List.setIfInBounds_toArray, List.set_cons_zero, List.set_cons_succ] at hK ⊢
              go_simp
              exact hK _ _ _ rfl (hJ.grow hl (by decide) (Below.refl _ _) rfl (.inr ⟨by simp [updB, h7], hka, hbx⟩))
            · have h7 : d 7 = false := hno 7 (by kernel_rfl)
              obtain ⟨hka, hbx⟩ : KA w.heap.size (w.heap.size + 1) ks u ∧ u.heap[wr.heap.size]? = some (.cells #[.int .i64 st, .int .i64 fnn, .slice lo2 ag.length lc2] 25 (0, 0)) := by
                rcases hJ.more with ⟨h, _⟩ | ⟨_, h⟩
                · rw [h7] at h; cases h
                · exact h
              obtain ⟨⟨c0, c1, c2⟩, f0, f1, f2⟩ := box3 hbx
              refine wanted_on rfl ?_
              simp only [putAll, Act.put, List.setIfInBounds_toArray, List.set_cons_zero, List.set_cons_succ] at hK ⊢
              go_simp
              exact hK _ _ _ rfl (hJ.grow hl (by decide) (Below.refl _ _) rfl (.inr ⟨by simp [updB, h7], hka, hbx⟩))
            · have e3 : f 3 = (.agg #[.int .i64 (st : Nat), .int .i64 fnn, .slice lo2 ag.length lc2]) := hJ.at 3 (hd 3 (by kernel_rfl)) hJ.none
              have h7 : d 7 = false := hno 7 (by kernel_rfl)
              obtain ⟨hka, hbx⟩ : KA w.heap.size (w.heap.size + 1) ks u ∧ u.heap[wr.heap.size]? = some (.cells #[.int .i64 st, .int .i64 fnn, .slice lo2 ag.length lc2] 25 (0, 0)) := by
                rcases hJ.more with ⟨h, _⟩ | ⟨_, h⟩
                · rw [h7] at h; cases h
                · exact h
              refine wanted_on rfl ?_
              simp only [putAll, Act.put, List.setIfInBounds_toArray, List.set_cons_zero, List.set_cons_succ, e3] at hK ⊢
              go_simp
              refine (own_copyCall ⟨st, fnn, ag⟩ (.slice lo2 ag.length lc2) u HAG.out (HIL.out u hJ.up)).mono ?_
              rintro e u1 ⟨L1, rfl, h1, hb⟩
              exact hK _ _ _ rfl (hJ.grow hl (by decide) hb ⟨L1, rfl, h1.up (by have := (Array.getElem?_eq_some_iff.1 hka.blk).1; omega)⟩ (.inr ⟨by simp [updB, h7], hka.below hb, by rw [hb.block _ (Array.getElem?_eq_some_iff.1 hbx).1]; exact hbx⟩))
            · have e2 : f 2 = (.int .i64 (maskAt cs (k + 1) : Nat)) := hJ.at 2 (hd 2 (by kernel_rfl)) hJ.none
              have h7 : d 7 = false := hno 7 (by kernel_rfl)
              obtain ⟨hka, hbx⟩ : KA w.heap.size (w.heap.size + 1) ks u ∧ u.heap[wr.heap.size]? = some (.cells #[.int .i64 st, .int .i64 fnn, .slice lo2 ag.length lc2] 25 (0, 0)) := by
                rcases hJ.more with ⟨h, _⟩ | ⟨_, h⟩
                · rw [h7] at h; cases h
                · exact h
              refine wanted_on rfl ?_
              simp only [putAll, Act.put, List.setIfInBounds_toArray, List.set_cons_zero, List.set_cons_succ, e2] at hK ⊢
              go_simp
              exact hK _ _ _ rfl (hJ.grow hl (by decide) (Below.refl _ _) rfl (.inr ⟨by simp [updB, h7], hka, hbx⟩))
            · have e1 : f 1 = (.int .i64 (st : Nat)) := hJ.at 1 (hd 1 (by kernel_rfl)) hJ.none
              have h7 : d 7 = false := hno 7 (by kernel_rfl)
              obtain ⟨hka, hbx⟩ : KA w.heap.size (w.heap.size + 1) ks u ∧ u.heap[wr.heap.size]? = some (.cells #[.int .i64 st, .int .i64 fnn, .slice lo2 ag.length lc2] 25 (0, 0)) := by
                rcases hJ.more with ⟨h, _⟩ | ⟨_, h⟩
                · rw [h7] at h; cases h
                · exact h
              refine wanted_on rfl ?_
              simp only [putAll, Act.put, List.setIfInBounds_toArray, List.set_cons_zero, List.set_cons_succ, e1] at hK ⊢
              go_simp
              exact hK _ _ _ rfl (hJ.grow hl (by decide) (Below.refl _ _) rfl (.inr ⟨by simp [updB, h7], hka, hbx⟩))
            · obtain ⟨V4, e4, q4⟩ := hJ.at 4 (hd 4 (by kernel_rfl)) hJ.none
              have e6 : f 6 = (.pointer (some ⟨w.heap.size, st * 3, none⟩)) := hJ.at 6 (hd 6 (by kernel_rfl)) hJ.none
              have h7 : d 7 = false := hn
              obtain ⟨hka, hbx⟩ : KA w.heap.size (w.heap.size + 1) ks u ∧ u.heap[wr.heap.size]? = some (.cells #[.int .i64 st, .int .i64 fnn, .slice lo2 ag.length lc2] 25 (0, 0)) := by
                rcases hJ.more with ⟨h, _⟩ | ⟨_, h⟩
                · rw [h7] at h; cases h
                · exact h
              obtain ⟨e8, he8⟩ : ∃ e8, ks[st]? = some e8 := ⟨_, List.getElem?_eq_getElem (by rw [hka.len]; omega)⟩
              obtain ⟨⟨c0, c1, c2⟩, f0, f1, f2⟩ := hka.cells he8
              have hp := hka.put (c := ⟨st, fnn, ag⟩) (L := V4) hst8 (by omega) q4
              obtain ⟨ao, cap, hsh⟩ := q4.shape
              simp only at hsh
              subst hsh
              unfold cval at e4
              refine wanted_on rfl ?_
              simp only [putAll, Act.put, List.setIfInBounds_toArray, List.set_cons_zero, List.set_cons_succ, e4, e6] at hK ⊢
              go_simp
              have hUP := ((hJ.up.setCell (p := ⟨w.heap.size, st * 3, none⟩) (Nat.le_refl _) (.int .i64 (st : Nat))).setCell (p := ⟨w.heap.size, st * 3 + 1, none⟩) (Nat.le_refl _) (.int .i64 fnn)).setCell (p := ⟨w.heap.size, st * 3 + 2, none⟩) (Nat.le_refl _) (.slice ao ag.length cap)
              have hoth : ∀ b, w.heap.size + 1 ≤ b → (((u.setCell ⟨w.heap.size, st * 3, none⟩ (.int .i64 (st : Nat))).setCell ⟨w.heap.size, st * 3 + 1, none⟩ (.int .i64 fnn)).setCell ⟨w.heap.size, st * 3 + 2, none⟩ (.slice ao ag.length cap)).heap[b]? = u.heap[b]? := fun b hb => by rw [heap_setCell_other _ _ _ _ (by simp; omega), heap_setCell_other _ _ _ _ (by simp; omega), heap_setCell_other _ _ _ _ (by simp; omega)]
              refine hK _ (f 7) _ rfl (hJ.step (by decide) hUP (fun j h2 h3 h4 h5 h6 => ?_) True.intro (.inl ⟨by simp [updB], .slice ao ag.length cap, hp⟩))
              match j, h6 with
              | 0, h6 => exact h6
              | 1, h6 => exact h6
              | 2, h6 => exact h6
              | 3, h6 => exact h6
              | 4, h6 => obtain ⟨L, e, q⟩ := h6; exact ⟨L, e, row_oth q hoth⟩
              | 5, h6 => exact h6
              | 6, h6 => exact h6
              | 7, _ => exact trivial
              | j + 8, _ => exact trivial
          · intro f d u hJ hall
            have e5 : f 5 = .int .i64 (maskAt cs (k + 1) : Nat) := hJ.at 5 (hall 5 (by decide)) hJ.none
            obtain ⟨L7, hk7⟩ : ∃ L, KA w.heap.size (w.heap.size + 1) (ks.set st ⟨⟨st, fnn, ag⟩, L⟩) u := by
              rcases hJ.more with ⟨_, h⟩ | ⟨h, _⟩
              · exact h
              · rw [hall 7 (by decide)] at h; cases h
            have HU : Hid (Below w.heap.size w u) := hJ.up
            have HK7 : Hid (KA w.heap.size (w.heap.size + 1) (ks.set st ⟨⟨st, fnn, ag⟩, L7⟩) u) := hk7
            have HST2 : Hid (Stand cs (k + 1) (ks.set st ⟨⟨st, fnn, ag⟩, L7⟩)) := HST.out.more (c := ⟨st, fnn, ag⟩) HR2.out HCK.out HKA.out.len
            simp only [putAll, Act.put, List.setIfInBounds_toArray, List.set_cons_zero, List.set_cons_succ, Nat.reduceAdd, e5]
            clear hJ hall hk7 hl
            go_wp2_with fail
            go_roundw
            case rel => exact ⟨k + 1, _, by omega, by go_num, rfl, HR2.out, HK7.out, HST2.out, HU.out⟩
            case measure => simp [intOf]; omega
        · have HSET : Hid (∀ u, Calls Try.prog 21 #[.int .i64 (maskAt cs k : Nat), .int .i64 st] u fun e w' => e = .returned (.tuple #[.int .i64 0, .int .i64 14]) ∧ Below u.heap.size u w') := fun u => by
            have := own_set (maskAt cs k : Int) st u
            rw [set_bad hbit] at this
            exact this
          have HNR : Hid (¬ Rise cs cs.length) := not_rise (fun hr => hbit ⟨(hr k ⟨st, fnn, ag⟩ (by omega) HCK.out).1, (hr k ⟨st, fnn, ag⟩ (by omega) HCK.out).2.1⟩) HMEET.out
          clear hbit
          go_wp2_with fail
          refine (HSET.out _).mono ?_
          rintro e u2 ⟨rfl, b2⟩
          go_wp2_with fail
          go_ret2
          exact ⟨.inr ⟨HNR.out, rfl⟩, HB1.out.trans (b2.mono HB1.out.size)⟩
      | true =>
        by_cases hle : st ≤ tp
        · have HNR : Hid (¬ Rise cs cs.length) := not_rise (HS1.out rfl hle) HMEET.out
          go_wp2_with fail
          go_ret2
          exact ⟨.inr ⟨HNR.out, rfl⟩, HB1.out⟩
        · have hle2 : decide (st ≤ tp) = false := decide_eq_false hle
          have HLT : Hid (tp < st) := by show tp < st; omega
          clear hle
          by_cases hbit : 0 ≤ st ∧ st < 8
          · obtain ⟨st, rfl⟩ : ∃ s : Nat, st = s := ⟨st.toNat, by omega⟩
            have hst8 : st < 8 := by omega
            have HSET : Hid (∀ u, Calls Try.prog 21 #[.int .i64 (maskAt cs k : Nat), .int .i64 (st : Nat)] u fun e w' => e = .returned (.tuple #[.int .i64 (maskAt cs (k + 1) : Nat), .int .i64 0]) ∧ Below u.heap.size u w') := fun u => by
              have := own_set (maskAt cs k : Int) (st : Int) u
              rw [set_at (c := ⟨st, fnn, ag⟩) HR.out HCK.out hbit.1 hbit.2] at this
              exact this
            have HR2 : Hid (Rise cs (k + 1)) := HR.out.more HCK.out hbit.1 hbit.2 (HS2.out (fun _ => HLT.out))
            clear hbit
            go_wp2_with fail
            refine (HSET.out _).mono ?_
            rintro e u2 ⟨rfl, b2⟩
            have HB2 : Hid (Below w.heap.size w u2) := HB1.out.trans (b2.mono HB1.out.size)
            have HK2 : Hid (KA w.heap.size (w.heap.size + 1) ks u2) := HK1.out.below b2
            have HBX2 : Hid (u2.heap[wr.heap.size]? = some (.cells #[.int .i64 (st : Nat), .int .i64 fnn, .slice lo2 ag.length lc2] 25 (0, 0))) := by
              have h1 := HBX.out
              show u2.heap[wr.heap.size]? = _
              rw [b2.block _ (Array.getElem?_eq_some_iff.1 h1).1]; exact h1
            have hst9 : (st : Int) < 8 := by omega
            clear b2 c0 c1 c2 f0 f1 f2
            go_wp2_with fail
            have hl : AllStab [isV (.pointer (some ⟨wr.heap.size, 0, none⟩)), isV (.int .i64 (st : Nat)), isV (.int .i64 (maskAt cs (k + 1) : Nat)), isV (.agg #[.int .i64 (st : Nat), .int .i64 fnn, .slice lo2 ag.length lc2]), isCall (w.heap.size + 1) ⟨st, fnn, ag⟩, isV (.int .i64 (maskAt cs (k + 1) : Nat)), isV (.pointer (some ⟨w.heap.size, st * 3, none⟩)), anyV] := ⟨stab_is _, stab_is _, stab_is _, stab_is _, stab_call _, stab_is _, stab_is _, stab_any, trivial⟩
            refine wp_joint (JF [isV (.pointer (some ⟨wr.heap.size, 0, none⟩)), isV (.int .i64 (st : Nat)), isV (.int .i64 (maskAt cs (k + 1) : Nat)), isV (.agg #[.int .i64 (st : Nat), .int .i64 fnn, .slice lo2 ag.length lc2]), isCall (w.heap.size + 1) ⟨st, fnn, ag⟩, isV (.int .i64 (maskAt cs (k + 1) : Nat)), isV (.pointer (some ⟨w.heap.size, st * 3, none⟩)), anyV] ([99, 99, 99, 99, 99, 99, 99, 99].getD · 99) (fun d f u => (d 7 = true ∧ ∃ L, KA w.heap.size (w.heap.size + 1) (ks.set st ⟨⟨st, fnn, ag⟩, L⟩) u) ∨ (d 7 = false ∧ KA w.heap.size (w.heap.size + 1) ks u ∧ u.heap[wr.heap.size]? = some (.cells #[.int .i64 st, .int .i64 fnn, .slice lo2 ag.length lc2] 25 (0, 0)))) w) (by kernel_rfl) (by kernel_rfl) (by kernel_rfl) (fun f => ⟨HB2.out.drew, rfl, (fun i h _ => by cases h), .inr ⟨rfl, HK2.out.below ((Below.refl _ _).drew), by have h1 := HBX2.out; rw [((Below.refl u2.heap.size u2).drew).block _ (Array.getElem?_eq_some_iff.1 h1).1]; exact h1⟩⟩) ?_ ?_
            · refine stepsOK5_cons (fun f d u hJ hn hd hno K hK => ?_) (stepsOK5_cons (fun f d u hJ hn hd hno K hK => ?_) (stepsOK5_cons (fun f d u hJ hn hd hno K hK => ?_) (stepsOK5_cons (fun f d u hJ hn hd hno K hK => ?_) (stepsOK5_cons (fun f d u hJ hn hd hno K hK => ?_) (stepsOK5_cons (fun f d u hJ hn hd hno K hK => ?_) (stepsOK5_cons (fun f d u hJ hn hd hno K hK => ?_) (stepsOK5_cons (fun f d u hJ hn hd hno K hK => ?_) stepsOK5_nil)))))))
              · have h7 : d 7 = false := hno 7 (by kernel_rfl)
                obtain ⟨hka, hbx⟩ : KA w.heap.size (w.heap.size + 1) ks u ∧ u.heap[wr.heap.size]? = some (.cells #[.int .i64 st, .int .i64 fnn, .slice lo2 ag.length lc2] 25 (0, 0)) := by
                  rcases hJ.more with ⟨h, _⟩ | ⟨_, h⟩
                  · rw [h7] at h; cases h
                  · exact h
                refine wanted_on rfl ?_
                simp only [putAll, Act.put, List.setIfInBounds_toArray, List.set_cons_zero, List.set_cons_succ] at hK ⊢
                go_simp
                exact hK _ _ _ rfl (hJ.grow hl (by decide) (Below.refl _ _) rfl (.inr ⟨by simp [updB, h7], hka, hbx⟩))
              · have e0 : f 0 = (.pointer (some ⟨wr.heap.size, 0, none⟩)) := hJ.at 0 (hd 0 (by kernel_rfl)) hJ.none
                have h7 : d 7 = false := hno 7 (by kernel_rfl)
                obtain ⟨hka, hbx⟩ : KA w.heap.size (w.heap.size + 1) ks u ∧ u.heap[wr.heap.size]? = some (.cells #[.int .i64 st, .int .i64 fnn, .slice lo2 ag.length lc2] 25 (0, 0)) := by
                  rcases hJ.more with ⟨h, _⟩ | ⟨_, h⟩
                  · rw [h7] at h; cases h
                  · exact h
                obtain ⟨⟨c0, c1, c2⟩, f0, f1, f2⟩ := box3 hbx
                refine wanted_on rfl ?_
                simp only [putAll, Act.put, List.setIfInBounds_toArray, List.set_cons_zero, List.set_cons_succ, e0] at hK ⊢
                go_simp
                exact hK _ _ _ rfl (hJ.grow hl (by decide) (Below.refl _ _) rfl (.inr ⟨by simp [updB, h7], hka, hbx⟩))
              · have h7 : d 7 = false := hno 7 (by kernel_rfl)
                obtain ⟨hka, hbx⟩ : KA w.heap.size (w.heap.size + 1) ks u ∧ u.heap[wr.heap.size]? = some (.cells #[.int .i64 st, .int .i64 fnn, .slice lo2 ag.length lc2] 25 (0, 0)) := by
                  rcases hJ.more with ⟨h, _⟩ | ⟨_, h⟩
                  · rw [h7] at h; cases h
                  · exact h
                refine wanted_on rfl ?_
                simp only [putAll, Act.put, List.setIfInBounds_toArray, List.set_cons_zero, List.set_cons_succ] at hK ⊢
                go_simp
                exact hK _ _ _ rfl (hJ.grow hl (by decide) (Below.refl _ _) rfl (.inr ⟨by simp [updB, h7], hka, hbx⟩))
              · have h7 : d 7 = false := hno 7 (by kernel_rfl)
                obtain ⟨hka, hbx⟩ : KA w.heap.size (w.heap.size + 1) ks u ∧ u.heap[wr.heap.size]? = some (.cells #[.int .i64 st, .int .i64 fnn, .slice lo2 ag.length lc2] 25 (0, 0)) := by
                  rcases hJ.more with ⟨h, _⟩ | ⟨_, h⟩
                  · rw [h7] at h; cases h
                  · exact h
                obtain ⟨⟨c0, c1, c2⟩, f0, f1, f2⟩ := box3 hbx
                refine wanted_on rfl ?_
                simp only [putAll, Act.put, List.setIfInBounds_toArray, List.set_cons_zero, List.set_cons_succ] at hK ⊢
                go_simp
                exact hK _ _ _ rfl (hJ.grow hl (by decide) (Below.refl _ _) rfl (.inr ⟨by simp [updB, h7], hka, hbx⟩))
              · have e3 : f 3 = (.agg #[.int .i64 (st : Nat), .int .i64 fnn, .slice lo2 ag.length lc2]) := hJ.at 3 (hd 3 (by kernel_rfl)) hJ.none
                have h7 : d 7 = false := hno 7 (by kernel_rfl)
                obtain ⟨hka, hbx⟩ : KA w.heap.size (w.heap.size + 1) ks u ∧ u.heap[wr.heap.size]? = some (.cells #[.int .i64 st, .int .i64 fnn, .slice lo2 ag.length lc2] 25 (0, 0)) := by
                  rcases hJ.more with ⟨h, _⟩ | ⟨_, h⟩
                  · rw [h7] at h; cases h
                  · exact h
                refine wanted_on rfl ?_
                simp only [putAll, Act.put, List.setIfInBounds_toArray, List.set_cons_zero, List.set_cons_succ, e3] at hK ⊢
                go_simp
                refine (own_copyCall ⟨st, fnn, ag⟩ (.slice lo2 ag.length lc2) u HAG.out (HIL.out u hJ.up)).mono ?_
                rintro e u1 ⟨L1, rfl, h1, hb⟩
                exact hK _ _ _ rfl (hJ.grow hl (by decide) hb ⟨L1, rfl, h1.up (by have := (Array.getElem?_eq_some_iff.1 hka.blk).1; omega)⟩ (.inr ⟨by simp [updB, h7], hka.below hb, by rw [hb.block _ (Array.getElem?_eq_some_iff.1 hbx).1]; exact hbx⟩))
              · have e2 : f 2 = (.int .i64 (maskAt cs (k + 1) : Nat)) := hJ.at 2 (hd 2 (by kernel_rfl)) hJ.none
                have h7 : d 7 = false := hno 7 (by kernel_rfl)
                obtain ⟨hka, hbx⟩ : KA w.heap.size (w.heap.size + 1) ks u ∧ u.heap[wr.heap.size]? = some (.cells #[.int .i64 st, .int .i64 fnn, .slice lo2 ag.length lc2] 25 (0, 0)) := by
                  rcases hJ.more with ⟨h, _⟩ | ⟨_, h⟩
                  · rw [h7] at h; cases h
                  · exact h
                refine wanted_on rfl ?_
                simp only [putAll, Act.put, List.setIfInBounds_toArray, List.set_cons_zero, List.set_cons_succ, e2] at hK ⊢
                go_simp
                exact hK _ _ _ rfl (hJ.grow hl (by decide) (Below.refl _ _) rfl (.inr ⟨by simp [updB, h7], hka, hbx⟩))
              · have e1 : f 1 = (.int .i64 (st : Nat)) := hJ.at 1 (hd 1 (by kernel_rfl)) hJ.none
                have h7 : d 7 = false := hno 7 (by kernel_rfl)
                obtain ⟨hka, hbx⟩ : KA w.heap.size (w.heap.size + 1) ks u ∧ u.heap[wr.heap.size]? = some (.cells #[.int .i64 st, .int .i64 fnn, .slice lo2 ag.length lc2] 25 (0, 0)) := by
                  rcases hJ.more with ⟨h, _⟩ | ⟨_, h⟩
                  · rw [h7] at h; cases h
                  · exact h
                refine wanted_on rfl ?_
                simp only [putAll, Act.put, List.setIfInBounds_toArray, List.set_cons_zero, List.set_cons_succ, e1] at hK ⊢
                go_simp
                exact hK _ _ _ rfl (hJ.grow hl (by decide) (Below.refl _ _) rfl (.inr ⟨by simp [updB, h7], hka, hbx⟩))
              · obtain ⟨V4, e4, q4⟩ := hJ.at 4 (hd 4 (by kernel_rfl)) hJ.none
                have e6 : f 6 = (.pointer (some ⟨w.heap.size, st * 3, none⟩)) := hJ.at 6 (hd 6 (by kernel_rfl)) hJ.none
                have h7 : d 7 = false := hn
                obtain ⟨hka, hbx⟩ : KA w.heap.size (w.heap.size + 1) ks u ∧ u.heap[wr.heap.size]? = some (.cells #[.int .i64 st, .int .i64 fnn, .slice lo2 ag.length lc2] 25 (0, 0)) := by
                  rcases hJ.more with ⟨h, _⟩ | ⟨_, h⟩
                  · rw [h7] at h; cases h
                  · exact h
                obtain ⟨e8, he8⟩ : ∃ e8, ks[st]? = some e8 := ⟨_, List.getElem?_eq_getElem (by rw [hka.len]; omega)⟩
                obtain ⟨⟨c0, c1, c2⟩, f0, f1, f2⟩ := hka.cells he8
                have hp := hka.put (c := ⟨st, fnn, ag⟩) (L := V4) hst8 (by omega) q4
                obtain ⟨ao, cap, hsh⟩ := q4.shape
                simp only at hsh
                subst hsh
                unfold cval at e4
                refine wanted_on rfl ?_
                simp only [putAll, Act.put, List.setIfInBounds_toArray, List.set_cons_zero, List.set_cons_succ, e4, e6] at hK ⊢
                go_simp
                have hUP := ((hJ.up.setCell (p := ⟨w.heap.size, st * 3, none⟩) (Nat.le_refl _) (.int .i64 (st : Nat))).setCell (p := ⟨w.heap.size, st * 3 + 1, none⟩) (Nat.le_refl _) (.int .i64 fnn)).setCell (p := ⟨w.heap.size, st * 3 + 2, none⟩) (Nat.le_refl _) (.slice ao ag.length cap)
                have hoth : ∀ b, w.heap.size + 1 ≤ b → (((u.setCell ⟨w.heap.size, st * 3, none⟩ (.int .i64 (st : Nat))).setCell ⟨w.heap.size, st * 3 + 1, none⟩ (.int .i64 fnn)).setCell ⟨w.heap.size, st * 3 + 2, none⟩ (.slice ao ag.length cap)).heap[b]? = u.heap[b]? := fun b hb => by rw [heap_setCell_other _ _ _ _ (by simp; omega), heap_setCell_other _ _ _ _ (by simp; omega), heap_setCell_other _ _ _ _ (by simp; omega)]
                refine hK _ (f 7) _ rfl (hJ.step (by decide) hUP (fun j h2 h3 h4 h5 h6 => ?_) True.intro (.inl ⟨by simp [updB], .slice ao ag.length cap, hp⟩))
                match j, h6 with
                | 0, h6 => exact h6
                | 1, h6 => exact h6
                | 2, h6 => exact h6
                | 3, h6 => exact h6
                | 4, h6 => obtain ⟨L, e, q⟩ := h6; exact ⟨L, e, row_oth q hoth⟩
                | 5, h6 => exact h6
                | 6, h6 => exact h6
                | 7, _ => exact trivial
                | j + 8, _ => exact trivial
            · intro f d u hJ hall
              have e5 : f 5 = .int .i64 (maskAt cs (k + 1) : Nat) := hJ.at 5 (hall 5 (by decide)) hJ.none
              obtain ⟨L7, hk7⟩ : ∃ L, KA w.heap.size (w.heap.size + 1) (ks.set st ⟨⟨st, fnn, ag⟩, L⟩) u := by
                rcases hJ.more with ⟨_, h⟩ | ⟨h, _⟩
                · exact h
                · rw [hall 7 (by decide)] at h; cases h
              have HU : Hid (Below w.heap.size w u) := hJ.up
              have HK7 : Hid (KA w.heap.size (w.heap.size + 1) (ks.set st ⟨⟨st, fnn, ag⟩, L7⟩) u) := hk7
              have HST2 : Hid (Stand cs (k + 1) (ks.set st ⟨⟨st, fnn, ag⟩, L7⟩)) := HST.out.more (c := ⟨st, fnn, ag⟩) HR2.out HCK.out HKA.out.len
              simp only [putAll, Act.put, List.setIfInBounds_toArray, List.set_cons_zero, List.set_cons_succ, Nat.reduceAdd, e5]
              clear hJ hall hk7 hl
              go_wp2_with fail
              go_roundw
              case rel => exact ⟨k + 1, _, by omega, by go_num, rfl, HR2.out, HK7.out, HST2.out, HU.out⟩
              case measure => simp [intOf]; omega
          · have HSET : Hid (∀ u, Calls Try.prog 21 #[.int .i64 (maskAt cs k : Nat), .int .i64 st] u fun e w' => e = .returned (.tuple #[.int .i64 0, .int .i64 14]) ∧ Below u.heap.size u w') := fun u => by
              have := own_set (maskAt cs k : Int) st u
              rw [set_bad hbit] at this
              exact this
            have HNR : Hid (¬ Rise cs cs.length) := not_rise (fun hr => hbit ⟨(hr k ⟨st, fnn, ag⟩ (by omega) HCK.out).1, (hr k ⟨st, fnn, ag⟩ (by omega) HCK.out).2.1⟩) HMEET.out
            clear hbit
            go_wp2_with fail
            refine (HSET.out _).mono ?_
            rintro e u2 ⟨rfl, b2⟩
            go_wp2_with fail
            go_ret2
            exact ⟨.inr ⟨HNR.out, rfl⟩, HB1.out.trans (b2.mono HB1.out.size)⟩
    · have hkn : k = es.length := by omega
      subst hkn
      have hlt2 : ¬ (es.length : Int) < (es.length : Int) := by omega
      have HR2 : Hid (Rise cs cs.length) := by have := HR.out; rw [HLE.out] at this; exact this
      have HST2 : Hid (Stand cs cs.length ks) := by have := HST.out; rw [HLE.out] at this; exact this
      have HM : Hid (maskAt cs es.length = maskAt cs cs.length) := by rw [HLE.out]; exact rfl
      have hzc := HZC.out
      have HTOP : Hid (∀ j u, Calls Try.prog 22 #[.int .i64 (maskAt cs j : Nat)] u fun e w' => e = .returned (.tuple #[.int .i64 (topR (maskAt cs j : Int)).1, .bool (topR (maskAt cs j : Int)).2]) ∧ Below u.heap.size u w') := fun j u => own_top (maskAt cs j : Int) u
      rw [HM.out]
      clear HR HST HX hk hlt hsz HM
      obtain ⟨wq, hwq⟩ : ∃ x, wr = x := ⟨_, rfl⟩
      subst hwq
      go_wp2_with fail
      refine (HTOP.out _ _).mono ?_
      rintro e u1 ⟨rfl, b1⟩
      have HKA1 : Hid (KA w.heap.size (w.heap.size + 1) ks u1) := HKA.out.below b1
      have HB1 : Hid (Below w.heap.size w u1) := HB.out.trans (b1.mono HB.out.size)
      clear b1
      go_wp2_with fail
      go_loopw [5, 12, 13, 14] (fun s5 s12 s13 s14 wr => ∃ (j : Nat) (ms : List Ce), j ≤ cs.length ∧ s5 = .int .i64 (maskAt cs j : Nat) ∧ s13 = .int .i64 (topR (maskAt cs j : Int)).1 ∧ s14 = .bool (topR (maskAt cs j : Int)).2 ∧ Hid (CRow (w.heap.size + 1) wr s12 ms (cs.drop j).reverse) ∧ Hid (KA w.heap.size (w.heap.size + 1) ks wr) ∧ Hid (Below w.heap.size w wr) ∧ Hid (s5 = .int .i64 (maskAt cs j : Nat))) (fun _ s12 _ _ _ => cs.length - lenOf s12)
      case atStart => exact ⟨cs.length, [], Nat.le_refl _, rfl, rfl, rfl, by rw [List.drop_length]; exact CRow.nil _ _, HKA1.out, HB1.out, rfl⟩
      case round =>
        obtain ⟨j, ms, hj, rfl, rfl, rfl, HRW, HKA, HB, -⟩ := hrel
        cases j with
        | zero =>
          have ht : topR ((maskAt cs 0 : Nat) : Int) = (0, false) := rfl
          rw [ht]
          go_wp2_with fail
          go_ret2
          refine ⟨.inl ⟨HR2.out, _, ms, rfl, ?_⟩, HB.out⟩
          have := HRW.out
          exact this
        | succ i =>
          obtain ⟨⟨st, fnn, ag⟩, hci⟩ : ∃ c, cs[i]? = some c := ⟨_, List.getElem?_eq_getElem (by omega)⟩
          have hri : Rise cs (i + 1) := HR2.out.less (by omega)
          obtain ⟨hs0, hs8, -⟩ := hri i _ (by omega) hci
          simp only at hs0 hs8
          obtain ⟨st, rfl⟩ : ∃ s : Nat, st = s := ⟨st.toNat, by omega⟩
          have ht : topR ((maskAt cs (i + 1) : Nat) : Int) = ((st : Int), true) := by
            have := top_at hri (by omega)
            rw [if_neg (by omega), Nat.add_sub_cancel, hci] at this
            exact this
          obtain ⟨L, hks⟩ := HST2.out i _ (by omega) hci
          simp only [Int.toNat_natCast] at hks
          have hown := HKA.out.lies _ (List.mem_of_getElem? hks)
          obtain ⟨ao, cap, hsh⟩ := hown.shape
          simp only at hsh
          subst hsh
          obtain ⟨⟨c0, c1, c2⟩, f0, f1, f2⟩ := HKA.out.cells hks
          have HDROP : Hid (∀ u, Calls Try.prog 23 #[.int .i64 (maskAt cs (i + 1) : Nat), .int .i64 (st : Nat)] u fun e w' => e = .returned (.tuple #[.int .i64 (maskAt cs i : Nat), .int .i64 0]) ∧ Below u.heap.size u w') := fun u => by
            have := own_drop (maskAt cs (i + 1) : Int) (st : Int) u
            rw [drop_at (c := ⟨st, fnn, ag⟩) hri hci] at this
            exact this
          have HREV : Hid ((cs.drop (i + 1)).reverse ++ [⟨st, fnn, ag⟩] = (cs.drop i).reverse) := drop_rev hci
          have HOWN : Hid (IOwn (w.heap.size + 1) wr (.slice ao ag.length cap) ag) := hown
          have HKAZ : Hid (w.heap.size + 1 ≤ wr.heap.size) := by have := (Array.getElem?_eq_some_iff.1 HKA.out.blk).1; show _ ≤ _; omega
          have hml : ms.length = cs.length - (i + 1) := by have := HRW.out.len; simpa using this
          obtain ⟨mo, mc, hmv⟩ := row_slice HRW.out.row
          subst hmv
          have HML : Hid (ms.length = cs.length - (i + 1)) := hml
          have hst9 : (st : Int) < 8 := by omega
          have hst8 : st < 8 := by omega
          rw [ht]
          clear hks hown hci hri hs0 hs8 ht hml
          obtain ⟨wq, hwq⟩ : ∃ x, wr = x := ⟨_, rfl⟩
          subst hwq
          go_wp2_with (at_builtin
                       refine wpList_append_own _ rfl _ _ 22 rfl (w.heap.size + 1) 25 i0 _ 3 40 Try.underlying22 hi hz0 hz1 hz2 rfl (by decide) _ _ _ rfl (HRW.out.row.alloc _) ⟨wr.heap.size, 0, none⟩ 1 1 (Ce.cells ⟨⟨(st : Nat), fnn, ag⟩, .slice ao ag.length cap⟩) rfl rfl ccells_new ccells_one (by unfold maxLen; have := HML.out; omega) (by have := HML.out; omega) (by have := HKAZ.out; simp; omega) ?_
                       intro v' w3 hown hgrow hnil
                       have hbel : Below wr.heap.size wr (wr.alloc (.cells #[.int .i64 (st : Nat), .int .i64 fnn, .slice ao ag.length cap] 25)) := (Below.refl _ _).alloc (Nat.le_refl _) _
                       have hrw1 := HRW.out.below hbel
                       have HR3 : Hid (CRow (w.heap.size + 1) w3 v' (ms ++ [⟨⟨(st : Nat), fnn, ag⟩, .slice ao ag.length cap⟩]) (cs.drop i).reverse) := by
                         have := hrw1.push hown hgrow (IOwn.below HOWN.out hbel)
                         rw [HREV.out] at this
                         exact this
                       have HK3 : Hid (KA w.heap.size (w.heap.size + 1) ks w3) := (HKA.out.below hbel).grown hgrow (row_typed hrw1.row)
                       have HB3 : Hid (Below w.heap.size w w3) := (HB.out.trans (hbel.mono HB.out.size)).grown hgrow (by have := HKAZ.out; simp; omega) (fun q hq => by have := (hrw1.row.lt q hq).1; omega)
                       obtain ⟨qo, qc, rfl⟩ := row_slice hown
                       clear hown hgrow hnil hbel hrw1)
          refine (HDROP.out _).mono ?_
          rintro e u4 ⟨rfl, b4⟩
          have HR4 : Hid _ := HR3.out.below b4
          have HK4 : Hid _ := HK3.out.below b4
          have HB4 : Hid (Below w.heap.size w u4) := HB3.out.trans (b4.mono HB3.out.size)
          clear b4
          go_wp2_with fail
          refine (HTOP.out _ _).mono ?_
          rintro e u5 ⟨rfl, b5⟩
          have HR5 : Hid _ := HR4.out.below b5
          have HK5 : Hid _ := HK4.out.below b5
          have HB5 : Hid (Below w.heap.size w u5) := HB4.out.trans (b5.mono HB4.out.size)
          clear b5
          go_wp2_with fail
          go_roundw
          case rel => exact ⟨i, _, by omega, rfl, rfl, rfl, HR5.out, HK5.out, HB5.out, rfl⟩
          case measure => have := HML.out; simp [lenOf]; omega
end Go.Proofs.Ytiaoidbhdkldlab
