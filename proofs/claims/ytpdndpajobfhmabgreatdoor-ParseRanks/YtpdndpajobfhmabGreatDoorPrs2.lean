/- The parser lays a node. -/
import Derived.Test.YtpdndpajobfhmabGreatDoorPrs1
import Derived.Maps.AppendAt
namespace Go.Proofs.YtpdndpajobfhmabGreatDoor
open Go.ChangeShapes Go.WideShapes Go.ChangeAt Go.RowKit
set_option maxRecDepth 100000
set_option linter.unusedSimpArgs false
set_option linter.unusedVariables false

theorem Tryz.infoNode : (Tryz.prog.info? 35).map (fun i => (i.zero, i.size, i.bytes)) = some (some (.agg #[.int .i64 0, .string ⟨#[]⟩, .string ⟨#[]⟩, .int .i64 0, .slice none 0 0]), 5, 72) := by kernel_rfl
/-- Append, at an operation: where the new row lies is told too. -/
theorem at_append {P : Program} (w : World) {o : Oper} {a : Act} {K : Act → World → Prop} {Q : Exit → Act → World → Prop} (s x : Operand) (t : TypeId) (ho : o.op = .call { callee := .builtin .append, args := #[s, x], argTypes := #[t, t] })
    (base : Nat) (e : TypeId) (i : TypeInfo) (z : Value) (size bytes : Nat) (ht : P.underlying t = some (.slice e)) (hi : P.info? e = some i) (hz : i.zero = some z) (hsize : i.size = size) (hby : i.bytes = bytes) (hzs : z.cells.size = size) (hsz : 0 < size)
    (v : Value) (n : Nat) (xs : List Value) (hs : a.eval s = v) (hown : w.ownsRow base e size v n xs)
    (ad : Addr) (m c : Nat) (news : List Value) (hx : a.eval x = .slice (some ad) m c) (hl : news.length = m * size) (hnews : ∀ j u, news[j]? = some u → w.cell? (ad.add j) = some u) (h1 : ∀ u ∈ news, u.oneCell' = true)
    (h63 : n + m ≤ maxLen) (hbytes : (n + m) * bytes ≤ 140737488355328) (hbase : base ≤ w.heap.size)
    (h : ∀ v' w', w'.ownsRow base e size v' (n + m) (xs ++ news) → w.grownBy w' v.ownBlock → (v'.ownBlock = v.ownBlock ∨ v'.ownBlock = some w.heap.size) → K (a.put o.dst v') w') : o.wp P a w K Q := by
  obtain ⟨v', w', hr, h2, h3, _, h5⟩ := run_append_own_at (P := P) w base t o.type e i z size bytes ht hi hz hsize hby hzs hsz v n xs hown ad m c news hl hnews h1 h63 hbytes hbase
  unfold Oper.wp execOp
  simp only [ho, resolve, invoke, builtin, Sem.run_bind, Sem.run_pure, Result.andThen_ok, List.map_toArray, List.map_cons, List.map_nil, hs, hx, hr]
  exact h v' w' h2 h3 h5
/-- A node more. -/
theorem Prs.put {B pb : Nat} {toks : List Tk} {st : Ps} {w W w3 : World} {tv v' kv : Value} {n : Nd} {kvs : List Value} (h : Prs B pb toks st w tv) (hb : Below w.heap.size w W)
    (hlen : kvs.length = st.tree.length) (hrow : w.ownsRow B 35 5 tv st.tree.length (ncells st.tree kvs)) (hkv : ∀ (i : Nat) n kv, st.tree[i]? = some n → kvs[i]? = some kv → w.ownsRow B 3 1 kv n.kids.length (kcells n.kids)) (hk : w.ownsRow B 3 1 kv n.kids.length (kcells n.kids))
    (hg : W.grownBy w3 tv.ownBlock) (ho : w3.ownsRow B 35 5 v' (st.tree.length + 1) (ncells st.tree kvs ++ n.cells kv)) (hat : v'.ownBlock = tv.ownBlock ∨ v'.ownBlock = some W.heap.size) :
    Prs B pb toks ⟨st.pos, st.tree ++ [n]⟩ (w3.setCell ⟨pb, 2, none⟩ v') v' ∧ MvX pb kv.ownBlock w tv (w3.setCell ⟨pb, 2, none⟩ v') v' ∧ w3.cell? ⟨pb, 2, none⟩ = some tv ∧ w3.frozen? ⟨pb, 2, none⟩ = false := by
  obtain ⟨tov, h1, h2⟩ := h.blk
  have hlt := h.lt
  have hpo : some pb ≠ tv.ownBlock := fun e => by
    obtain ⟨_, _, cur, hh⟩ := h.tv_own e.symm
    rw [h1] at hh
    simp at hh
  have old : ∀ k, k < w.heap.size → some k ≠ tv.ownBlock → w3.heap[k]? = w.heap[k]? := fun k hk ho => (hg.block k (Nat.lt_of_lt_of_le hk hb.size) ho).trans (hb.block k hk)
  have x1 := (old pb hlt hpo).trans h1
  have hoth : ∀ k, k ≠ pb → (w3.setCell ⟨pb, 2, none⟩ v').heap[k]? = w3.heap[k]? := fun k hk => Below.heap_setCell _ _ _ _ (by simpa using hk)
  have key : ∀ {e size m : Nat} {v : Value} {xs : List Value}, e ≠ 47 → e ≠ 35 → w.ownsRow B e size v m xs → (w3.setCell ⟨pb, 2, none⟩ v').ownsRow B e size v m xs := fun he1 he2 hr => row_of_block hr fun g hgb => by
    obtain ⟨_, hgl, cur, hh⟩ := row_block hr hgb
    have hgp : g ≠ pb := fun e' => by subst e'; rw [hh] at h1; simp at h1; exact he1 h1.2
    rw [hoth g hgp]
    exact old g hgl (fun e' => by
      obtain ⟨_, _, cur', hh'⟩ := h.tv_own e'.symm
      rw [hh] at hh'
      simp at hh'
      exact he2 hh'.2)
  refine ⟨⟨h.low, ⟨tov, ?_, key (by decide) (by decide) h2⟩, ⟨kvs ++ [kv], by simp [hlen], ?_, ?_⟩⟩, ⟨?_, ?_, ?_, ?_, ?_, ?_, ?_⟩, by simp [World.cell?, x1], by simp [World.frozen?, x1]⟩
  · simp [World.setCell, Array.getElem?_modify, x1]
  · rw [ncells_snoc _ _ _ _ hlen, List.length_append, List.length_singleton]
    refine row_of_block ho fun g hgb => hoth g (fun e' => ?_)
    obtain ⟨_, _, cur, hh⟩ := row_block ho hgb
    subst e'
    rw [x1] at hh
    simp at hh
  · intro i m kv' hm hkv'
    rcases Nat.lt_trichotomy i st.tree.length with hi | hi | hi
    · simp only at hm
      rw [List.getElem?_append_left hi] at hm
      rw [List.getElem?_append_left (by omega)] at hkv'
      exact key (by decide) (by decide) (hkv i m kv' hm hkv')
    · subst hi
      simp at hm
      rw [List.getElem?_append_right (by omega), hlen] at hkv'
      simp at hkv'
      subst hm; subst hkv'
      exact key (by decide) (by decide) hk
    · simp only at hm
      rw [List.getElem?_eq_none (by simp; omega)] at hm
      cases hm
  · exact hg.os.trans hb.os
  · exact hg.tape.trans hb.tape
  · exact hg.output.trans hb.output
  · have := hg.size; have := hb.size; simp [World.setCell]; omega
  · intro k hk hkp hko
    rw [hoth k hkp]
    exact old k hk hko
  · rcases hat with e | e
    · exact .inl e
    · exact .inr (fun q hq => by rw [e] at hq; cases hq; exact hb.size)
  · intro g hg hx hn b m c k kv' e hk hc
    subst e
    have hbp : b ≠ pb := fun e' => by
      obtain ⟨_, _, cur, hh⟩ := row_block ho (g := b) rfl
      subst e'
      rw [x1] at hh
      simp at hh
    rw [World.cell?_of_block (a := ⟨b, k * 5 + 4, none⟩) (hoth b hbp)] at hc
    obtain rfl : m = st.tree.length + 1 := by
      rcases ho.2 with ⟨h0, _⟩ | ⟨q, cap, cur, hv, _⟩
      · cases h0
      · simp only [Value.slice.injEq] at hv; exact hv.2.1
    rw [ho.cellAt (k * 5 + 4) (by omega)] at hc
    rcases Nat.lt_or_ge k st.tree.length with hkl | hkl
    · obtain ⟨n1, hn1⟩ : ∃ n1, st.tree[k]? = some n1 := ⟨_, List.getElem?_eq_getElem hkl⟩
      obtain ⟨kk, hkk⟩ : ∃ kk, kvs[k]? = some kk := ⟨kvs[k]'(by omega), List.getElem?_eq_getElem _⟩
      have hcl : (ncells st.tree kvs).length = st.tree.length * 5 := hrow.1
      rw [List.getElem?_append_left (by omega), ncells_get st.tree kvs k 4 n1 kk (by decide) hn1 hkk] at hc
      simp [Nd.cells] at hc
      subst hc
      obtain ⟨b0, c0, htv⟩ : ∃ b0 c0, tv = .slice (some ⟨b0, 0, none⟩) st.tree.length c0 := by
        rcases hrow.2 with ⟨_, h0⟩ | ⟨q, cap, cur, hv, _⟩
        · omega
        · exact ⟨_, _, hv⟩
      refine hn b0 st.tree.length c0 k kk htv hkl ?_
      rw [htv] at hrow
      rw [hrow.cellAt (k * 5 + 4) (by omega), ncells_get st.tree kvs k 4 n1 kk (by decide) hn1 hkk]
      rfl
    · obtain rfl : k = st.tree.length := by omega
      have hcl : (ncells st.tree kvs).length = st.tree.length * 5 := hrow.1
      rw [List.getElem?_append_right (by omega), hcl, show st.tree.length * 5 + 4 - st.tree.length * 5 = 4 by omega] at hc
      simp [Nd.cells] at hc
      subst hc
      exact fun e => hx e.symm
def Ps.lay (st : Ps) (n : Nd) : Ps := ⟨st.pos, st.tree ++ [n]⟩
def Nd.val (n : Nd) (kv : Value) : Value := .agg #[.int .i64 n.kind, .string n.text, .string n.typ, .int .i64 n.num, kv]
set_option maxHeartbeats 2000000 in
theorem own_lay (B pb : Nat) (toks : List Tk) (st : Ps) (w : World) (tv : Value) (n : Nd) (ko : Option Addr) (kl kc : Nat) (h : Prs B pb toks st w tv) (hk : w.ownsRow B 3 1 (.slice ko kl kc) n.kids.length (kcells n.kids)) (hl : st.tree.length ≤ 1000000) :
    Calls Tryz.prog 31 #[.pointer (some ⟨pb, 0, none⟩), n.val (.slice ko kl kc)] w fun e w' => e = .returned (.int .i64 st.tree.length) ∧ ∃ tv', Prs B pb toks (st.lay n) w' tv' ∧ MvX pb (Value.slice ko kl kc).ownBlock w tv w' tv' := by
  unfold Nd.val
  obtain ⟨i0, hi, hz0, hz1, hz2⟩ := info_parts Tryz.infoNode
  obtain ⟨kvs, hlen, hrow, hkv⟩ := h.row
  obtain ⟨to', tl', tc', rfl⟩ : ∃ a l c, tv = .slice a l c := by
    rcases hrow.2 with ⟨hv, h0⟩ | ⟨g, cap, cur, hv, _⟩
    · exact ⟨_, _, _, hv⟩
    · exact ⟨_, _, _, hv⟩
  have hB : B ≤ w.heap.size := Nat.le_trans h.low (Nat.le_of_lt h.lt)
  obtain ⟨tq, tc, -, c1, c2, fz, -⟩ := h.cells
  have hlt := h.lt
  have HH : Hid (Prs B pb toks st w (.slice to' tl' tc')) := h
  have HR : Hid (w.ownsRow B 35 5 (.slice to' tl' tc') st.tree.length (ncells st.tree kvs)) := hrow
  have HKV : Hid (∀ (i : Nat) n kv, st.tree[i]? = some n → kvs[i]? = some kv → w.ownsRow B 3 1 kv n.kids.length (kcells n.kids)) := hkv
  have HK : Hid (w.ownsRow B 3 1 (.slice ko kl kc) n.kids.length (kcells n.kids)) := hk
  have HL : Hid (kvs.length = st.tree.length) := hlen
  obtain ⟨W0, hW0⟩ : ∃ W, W = w.alloc (.cells #[.int .i64 n.kind, .string n.text, .string n.typ, .int .i64 n.num, .slice ko kl kc] 35) := ⟨_, rfl⟩
  have HW0 : Hid (Below w.heap.size w W0) := by rw [hW0]; exact (Below.refl _ _).alloc (Nat.le_refl _) _
  have HC0 : Hid (∀ W, Below W0.heap.size W0 W → W.cell? ⟨pb, 2, none⟩ = some (.slice to' tl' tc') ∧ ∀ j u, (n.cells (.slice ko kl kc))[j]? = some u → W.cell? ⟨w.heap.size, j, none⟩ = some u) := fun W hW => by
    refine ⟨?_, fun j u hu => ?_⟩
    · rw [hW.cell (p := ⟨pb, 2, none⟩) (by rw [hW0]; simp; omega), hW0]
      rw [((Below.refl w.heap.size w).alloc (Nat.le_refl _) _).cell (p := ⟨pb, 2, none⟩) hlt]
      exact c2
    · rw [hW.cell (p := ⟨w.heap.size, j, none⟩) (by rw [hW0]; simp), hW0]
      have := cells_new w (n.cells (.slice ko kl kc)) 35 j u hu
      simpa [add_plain, Nd.cells] using this
  clear h hk hrow hkv hlen fz
  go_enter Tryz.func31, Tryz.ntmps31
  go_wp2
  rw [← hW0]
  clear hW0
  refine wp_region_any (by kernel_rfl) ?_
  refine wpAny_take (i := 0) rfl (by kernel_rfl) (by kernel_rfl) (by kernel_rfl) (fun _ _ _ h => h) (Or.inl ⟨by rfl, fun w => (by go_simp; try with_reducible rfl)⟩) ?_
  simp only [Act.put, List.setIfInBounds_toArray, List.set_cons_zero, List.set_cons_succ]
  refine wpAny_headS (fun W => Below W0.heap.size W0 W) 1 5 7 5 (below_drewN1 W0 1) (by kernel_rfl) (shutl_one (by kernel_rfl)) (fun _ _ d _ _ h => by cases d <;> exact h) (by kernel_rfl) (by kernel_rfl) (by kernel_rfl) ?_
  simp only [List.take_succ_cons, List.take_zero, List.drop_succ_cons, List.drop_zero]
  repeat (refine wpValS_step _ (by rfl) (by intro W hW; obtain ⟨p1, p2⟩ := HC0.out W hW; have r0 := p2 0 _ rfl; have r1 := p2 1 _ rfl; have r2 := p2 2 _ rfl; have r3 := p2 3 _ rfl; have r4 := p2 4 _ rfl; go_simp; try with_reducible rfl) ?_; try simp only [Act.put, List.setIfInBounds_toArray, List.set_cons_zero, List.set_cons_succ])
  refine wpValS_nil ?_
  refine T_one (i := 6) rfl (by kernel_rfl) (fun K hK => ?_)
  go_simp
  refine hK _ _ (fun _ => (below_drewN1 W0 1).alloc (Nat.le_refl _) _) ?_
  clear hK K
  refine tail_of (by kernel_rfl) ?_
  try simp only [Act.put, List.setIfInBounds_toArray, List.set_cons_zero, List.set_cons_succ]
  refine wpAny_ready (rs := [7]) (by kernel_rfl) (by simp) ?_
  refine AllReady.cons rfl (fun K hK => ?_) AllReady.nil
  rw [if_pos (by rfl)]
  have hbA : Below w.heap.size w ((W0.drewN 1).alloc (.cells #[.int .i64 n.kind, .string n.text, .string n.typ, .int .i64 n.num, .slice ko kl kc] 35)) := (below_dn HW0.out 1).alloc (by have := HW0.out.size; simp; omega) _
  refine at_append _ (.tmp 9) (.tmp 11) 22 rfl B 35 i0 _ 5 72 Tryz.underlying22 hi hz0 hz1 hz2 rfl (by decide) _ st.tree.length (ncells st.tree kvs) rfl ?own ⟨W0.heap.size, 0, none⟩ 1 1 (n.cells (.slice ko kl kc)) rfl rfl ?c1 ?c2 ?c3 ?c4 ?c5 ?_
  case own => exact row_of_block HR.out fun g hg => hbA.block g (row_block HR.out hg).2.1
  case c1 => exact cells_new (W0.drewN 1) (n.cells (.slice ko kl kc)) _
  case c2 => intro u hu; simp [Nd.cells] at hu; rcases hu with rfl | rfl | rfl | rfl | rfl <;> rfl
  case c3 => unfold maxLen; omega
  case c4 => omega
  case c5 => have := HW0.out.size; simp; omega
  intro v' w3 hown' hgrow hat
  obtain ⟨ao', n', cap', hv'⟩ : ∃ ao' n' cap', v' = .slice ao' n' cap' := by
    rcases hown'.2 with ⟨h0, _⟩ | ⟨g, cap, cur, hv, _⟩
    · exact ⟨_, _, _, h0⟩
    · exact ⟨_, _, _, hv⟩
  subst hv'
  obtain ⟨q1, q2, d3, f3⟩ := HH.out.put hbA HL.out HR.out HKV.out HK.out hgrow hown' hat
  obtain ⟨ao2, cc2, hsh⟩ : ∃ a c, Value.slice ao' n' cap' = .slice a (st.tree.length + 1) c := by
    rcases hown'.2 with ⟨h0, h1⟩ | ⟨g, cap, cur, hv, _⟩
    · omega
    · exact ⟨_, _, hv⟩
  simp only [Value.slice.injEq] at hsh
  obtain ⟨-, rfl, -⟩ := hsh
  have HF : Hid (Prs B pb toks (st.lay n) (w3.setCell ⟨pb, 2, none⟩ (.slice ao' (st.tree.length + 1) cap')) (.slice ao' (st.tree.length + 1) cap') ∧ MvX pb (Value.slice ko kl kc).ownBlock w (.slice to' tl' tc') (w3.setCell ⟨pb, 2, none⟩ (.slice ao' (st.tree.length + 1) cap')) (.slice ao' (st.tree.length + 1) cap')) := ⟨q1, q2⟩
  clear q1 q2 hgrow hown' hat hbA
  refine hK _ _ ?_
  clear hK K
  try simp only [Act.put, List.setIfInBounds_toArray, List.set_cons_zero, List.set_cons_succ]
  refine wpAny_ready (rs := [8]) (by kernel_rfl) (by simp) ?_
  refine AllReady.cons rfl (fun K hK => ?_) AllReady.nil
  go_simp
  refine hK _ _ ?_
  clear hK K
  try simp only [Act.put, List.setIfInBounds_toArray, List.set_cons_zero, List.set_cons_succ]
  refine wpAny_ready (rs := [9]) (by kernel_rfl) (by simp) ?_
  refine AllReady.cons rfl (fun K hK => ?_) AllReady.nil
  go_simp
  refine hK _ _ ?_
  clear hK K
  try simp only [Act.put, List.setIfInBounds_toArray, List.set_cons_zero, List.set_cons_succ]
  refine wpAny_ready (rs := [10]) (by kernel_rfl) (by simp) ?_
  refine AllReady.cons rfl (fun K hK => ?_) AllReady.nil
  go_simp
  refine hK _ _ ?_
  clear hK K
  try simp only [Act.put, List.setIfInBounds_toArray, List.set_cons_zero, List.set_cons_succ]
  obtain ⟨tq2, tc2, -, -, e2, -, -⟩ := HF.out.1.cells
  refine wpAny_done (by kernel_rfl) ?_ _
  go_wp2
  go_ret
  exact ⟨by simp, _, HF.out⟩
end Go.Proofs.YtpdndpajobfhmabGreatDoor
