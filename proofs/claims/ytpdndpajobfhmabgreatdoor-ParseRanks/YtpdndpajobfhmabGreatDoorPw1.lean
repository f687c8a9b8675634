/- The parser's steps over parts and operands. -/
import Derived.Test.YtpdndpajobfhmabGreatDoorPplain
import Derived.Deep.QuietTactic
namespace Go.Proofs.YtpdndpajobfhmabGreatDoor
open Go.ChangeShapes Go.WideShapes Go.ChangeAt Go.RowKit
set_option maxRecDepth 100000
set_option linter.unusedSimpArgs false
set_option linter.unusedVariables false

def PO (B pb : Nat) (toks : List Tk) (w : World) (tv : Value) (ret : List Nat → Value) : Out → Ending → World → Prop
  | .na, _, _ => True
  | .bad, e, w' => e = Gave 6 0 0 ∧ ∃ tv', Mv pb w tv w' tv'
  | .ok r st, e, w' => e = .returned (ret r) ∧ ∃ tv', Prs B pb toks st w' tv' ∧ Mv pb w tv w' tv'
def ret1 : List Nat → Value
  | [k] => .int .i64 (k : Int)
  | _ => .tuple #[]
def ret2 : List Nat → Value
  | [a, b] => .tuple #[.int .i64 (a : Int), .int .i64 (b : Int)]
  | _ => .tuple #[]
/-- Where the parser stands, with its bounds. -/
structure Sit (B pb : Nat) (toks : List Tk) (st : Ps) (w : World) (tv : Value) : Prop where
  prs : Prs B pb toks st w tv
  n : toks.length ≤ 2000
  pos : st.pos ≤ toks.length
  tree : st.tree.length ≤ 4 * st.pos
theorem Sit.after {B pb : Nat} {toks : List Tk} {st st' : Ps} {w w' : World} {tv tv' : Value} {k : Nat} {rq : Rq} {r : List Nat} (h : Sit B pb toks st w tv) (hr : run toks k rq st = .ok r st') (hc : cst rq = 0) (hp : Prs B pb toks st' w' tv') : Sit B pb toks st' w' tv' := by
  obtain ⟨a1, a2, a3⟩ := run_inv toks k rq st r st' hr h.pos
  have := h.tree
  exact ⟨hp, h.n, a2, by omega⟩
theorem nil_row (w : World) (B : Nat) : w.ownsRow B 3 1 (.slice none 0 0) ([] : List Nat).length (kcells []) := World.ownsRow_nil _ _ _ _
/-- A node's kind, where it lies. -/
theorem Prs.kindAt {B pb : Nat} {toks : List Tk} {st : Ps} {w : World} {tv : Value} (h : Prs B pb toks st w tv) {k : Nat} {n : Nd} (hk : st.tree[k]? = some n) : ∃ g c, tv = .slice (some ⟨g, 0, none⟩) st.tree.length c ∧ w.cell? ⟨g, k * 5, none⟩ = some (.int .i64 n.kind) := by
  obtain ⟨kvs, hlen, hrow, _⟩ := h.row
  have hlt := (List.getElem?_eq_some_iff.1 hk).1
  obtain ⟨kv, hkv⟩ : ∃ kv, kvs[k]? = some kv := ⟨kvs[k]'(by omega), List.getElem?_eq_getElem _⟩
  rcases hrow.2 with ⟨_, h0⟩ | ⟨g, cap, cur, hv, _⟩
  · omega
  · subst hv
    refine ⟨g, cap, rfl, ?_⟩
    rw [hrow.cellAt (k * 5) (by omega)]
    exact ncells_get st.tree kvs k 0 n kv (by decide) hk hkv
/-- A node of the call's own beside the parser: it may be written. -/
structure Far (B pb : Nat) (toks : List Tk) (st : Ps) (w : World) (tv : Value) (W : World) (tv' : Value) (g : Nat) : Prop where
  prs : Prs B pb toks st W tv'
  mv : Mv pb w tv W tv'
  new : w.heap.size ≤ g
  tree : some g ≠ tv'.ownBlock
  node : ∃ cs fr, W.heap[g]? = some (.cells cs 35 fr)
theorem Far.set {B pb : Nat} {toks : List Tk} {st : Ps} {w W : World} {tv tv' : Value} {g : Nat} (h : Far B pb toks st w tv W tv' g) (o : Nat) (v : Value) : Far B pb toks st w tv (W.setCell ⟨g, o, none⟩ v) tv' g := by
  obtain ⟨cs, fr, hn⟩ := h.node
  have hoth : ∀ k, k ≠ g → (W.setCell ⟨g, o, none⟩ v).heap[k]? = W.heap[k]? := fun k hk => Below.heap_setCell _ _ _ _ (by simpa using hk)
  obtain ⟨tov, h1, h2⟩ := h.prs.blk
  obtain ⟨kvs, h3, h4, h5⟩ := h.prs.row
  have hpg : pb ≠ g := fun e => by subst e; rw [h1] at hn; simp at hn
  have key : ∀ {e size n : Nat} {u : Value} {xs : List Value}, e ≠ 35 → W.ownsRow B e size u n xs → (W.setCell ⟨g, o, none⟩ v).ownsRow B e size u n xs := fun he hr => row_of_block hr fun q hq => hoth q (fun e' => by
    obtain ⟨_, _, cur, hh⟩ := row_block hr hq
    subst e'
    rw [hn] at hh
    simp at hh
    exact he hh.2.1.symm)
  refine ⟨⟨h.prs.low, ⟨tov, (hoth pb hpg).trans h1, key (by decide) h2⟩, ⟨kvs, h3, row_of_block h4 fun q hq => hoth q (fun e' => h.tree (by rw [← e', hq])), fun i n kv hi hk => key (by decide) (h5 i n kv hi hk)⟩⟩, ?_, h.new, h.tree, ?_⟩
  · refine ⟨h.mv.os, h.mv.tape, h.mv.output, by have := h.mv.size; simpa [World.setCell] using this, fun k hk hkp hko => ?_, h.mv.own, fun g' hg' hx hn b n c k kv e hk hc => ?_⟩
    · have := h.new
      rw [hoth k (by omega)]
      exact h.mv.block k hk hkp hko
    · subst e
      rw [World.cell?_of_block (a := ⟨b, k * 5 + 4, none⟩) (hoth b (fun e' => h.tree (by rw [← e']; rfl)))] at hc
      exact h.mv.ap g' hg' hx hn b n c k kv rfl hk hc
  · refine ⟨cs.setIfInBounds o v, fr, ?_⟩
    simp [World.setCell, Array.getElem?_modify, hn]
set_option maxHeartbeats 1000000 in
theorem own_single (B pb : Nat) (toks : List Tk) (st : Ps) (w : World) (tv : Value) (h : Sit B pb toks st w tv) (hk : pkK toks st.pos = 1) :
    Calls Tryz.prog 170 #[.pointer (some ⟨pb, 0, none⟩)] w fun e w' => e = .returned (Nd.val ⟨25, pkT toks st.pos, ⟨#[]⟩, 0, []⟩ (.slice none 0 0)) ∧ Prs B pb toks st.next w' tv ∧ Mv pb w tv w' tv := by
  have hp0 := h.n
  have hp1 := h.pos
  have HP : Hid (∀ W, Below w.heap.size w W → Calls Tryz.prog 58 #[.pointer (some ⟨pb, 0, none⟩), .int .i64 0] W fun e w' =>
      ∃ ln cl : Int, e = .returned (.agg #[.int .i64 1, .string (pkT toks st.pos), .int .i64 ln, .int .i64 cl]) ∧ Below W.heap.size W w') := fun W hW => by
    have := own_peek B pb toks st W tv 0 (h.prs.below hW) h.n (by omega)
    rw [Nat.add_zero, hk] at this
    exact this
  have HH : Hid (Prs B pb toks st w tv) := h.prs
  unfold Nd.val
  generalize pkT toks st.pos = T at *
  have HB0 : Hid (Below w.heap.size w (w.alloc (.cells #[.int .i64 0, .string ⟨#[]⟩, .string ⟨#[]⟩, .int .i64 0, .slice none 0 0] 35))) := (Below.refl _ _).alloc (Nat.le_refl _) _
  clear h hk
  go_enter Tryz.func170, Tryz.ntmps170
  go_wp2_with fail
  refine (HP.out _ HB0.out).mono ?_
  rintro e w1 ⟨ln, cl, rfl, hb⟩
  have hbw : Below w.heap.size w w1 := HB0.out.trans (hb.mono HB0.out.size)
  have hb2 : Below w.heap.size w (w1.alloc (.cells #[.int .i64 1, .string T, .int .i64 ln, .int .i64 cl] 64)) := hbw.alloc hbw.size _
  have h1 := HH.out.below hb2
  have hne : pb ≠ w1.heap.size := by have := (HH.out.below hbw).lt; omega
  have hne2 : pb ≠ w.heap.size := by have := HH.out.lt; omega
  have hltw : w.heap.size < w1.heap.size := Nat.lt_of_lt_of_le (by simp) hb.size
  obtain ⟨tq, tc, -, c1, -, fz, -⟩ := h1.cells
  have f1 := fz 1
  have z : ∀ j u, [Value.int .i64 0, .string ⟨#[]⟩, .string ⟨#[]⟩, .int .i64 0, .slice none 0 0][j]? = some u → w1.cell? ⟨w.heap.size, j, none⟩ = some u ∧ w1.frozen? ⟨w.heap.size, j, none⟩ = false := fun j u hu => by
    refine ⟨?_, ?_⟩
    · rw [hb.cell (p := ⟨w.heap.size, j, none⟩) (by simp)]
      have := cells_new w [Value.int .i64 0, .string ⟨#[]⟩, .string ⟨#[]⟩, .int .i64 0, .slice none 0 0] 35 j u hu
      simpa [add_plain] using this
    · rw [hb.frozen (p := ⟨w.heap.size, j, none⟩) (by simp)]
      simp
  have z0 := z 0 _ rfl
  have z1 := z 1 _ rfl
  have z2 := z 2 _ rfl
  have z3 := z 3 _ rfl
  have z4 := z 4 _ rfl
  have HF : Hid (Prs B pb toks st.next ((w1.alloc (.cells #[.int .i64 1, .string T, .int .i64 ln, .int .i64 cl] 64)).setCell ⟨pb, 1, none⟩ (.int .i64 (st.pos + 1 : Nat))) tv ∧ Mv pb w tv ((w1.alloc (.cells #[.int .i64 1, .string T, .int .i64 ln, .int .i64 cl] 64)).setCell ⟨pb, 1, none⟩ (.int .i64 (st.pos + 1 : Nat))) tv) := ⟨(h1.setPos _).1, (HH.out.mvb hb2).trans (h1.setPos _).2⟩
  have hno : some w.heap.size ≠ tv.ownBlock := fun e => by have := (HH.out.tv_own e.symm).2.1; omega
  have hgb : ((w1.alloc (.cells #[.int .i64 1, .string T, .int .i64 ln, .int .i64 cl] 64)).setCell ⟨pb, 1, none⟩ (.int .i64 (st.pos + 1 : Nat))).heap[w.heap.size]? = some (.cells #[.int .i64 0, .string ⟨#[]⟩, .string ⟨#[]⟩, .int .i64 0, .slice none 0 0] 35 (0, 0)) := by
    rw [Below.heap_setCell _ _ _ _ (by simpa using hne2.symm), Lib.alloc_old _ _ _ hltw, hb.block _ (by simp)]
    exact heap_alloc_new w _
  have HFAR : Hid (Far B pb toks st.next w tv ((w1.alloc (.cells #[.int .i64 1, .string T, .int .i64 ln, .int .i64 cl] 64)).setCell ⟨pb, 1, none⟩ (.int .i64 (st.pos + 1 : Nat))) tv w.heap.size) := ⟨HF.out.1, HF.out.2, Nat.le_refl _, hno, _, _, hgb⟩
  have HY : Hid (∀ (j : Nat) u, [Value.int .i64 0, .string ⟨#[]⟩, .string ⟨#[]⟩, .int .i64 0, .slice none 0 0][j]? = some u → ((w1.alloc (.cells #[.int .i64 1, .string T, .int .i64 ln, .int .i64 cl] 64)).setCell ⟨pb, 1, none⟩ (.int .i64 ((st.pos : Int) + 1))).cell? ⟨w.heap.size, j, none⟩ = some u) := fun j u hu => by
    have hgb' : ((w1.alloc (.cells #[.int .i64 1, .string T, .int .i64 ln, .int .i64 cl] 64)).setCell ⟨pb, 1, none⟩ (.int .i64 ((st.pos : Int) + 1))).heap[w.heap.size]? = some (.cells #[.int .i64 0, .string ⟨#[]⟩, .string ⟨#[]⟩, .int .i64 0, .slice none 0 0] 35 (0, 0)) := hgb
    simp only [World.cell?, hgb']
    simpa using hu
  clear hb hb2 h1 fz z hbw hno hgb
  go_wp2_with fail
  have hfin : Far B pb toks st.next w tv ((((((((w1.alloc (.cells #[.int .i64 1, .string T, .int .i64 ln, .int .i64 cl] 64)).setCell ⟨pb, 1, none⟩ (.int .i64 ((st.pos : Int) + 1)))).setCell ⟨w.heap.size, 0, none⟩ (.int .i64 25)).setCell ⟨w.heap.size, 1, none⟩ (.string T)).setCell ⟨w.heap.size, 2, none⟩ (.string ⟨#[]⟩)).setCell ⟨w.heap.size, 3, none⟩ (.int .i64 0)).setCell ⟨w.heap.size, 4, none⟩ (.slice none 0 0)) tv w.heap.size := ((((HFAR.out.set 0 (.int .i64 25)).set 1 (.string T)).set 2 (.string ⟨#[]⟩)).set 3 (.int .i64 0)).set 4 (.slice none 0 0)
  have y0 := HY.out 0 _ rfl
  have y1 := HY.out 1 _ rfl
  have y2 := HY.out 2 _ rfl
  have y3 := HY.out 3 _ rfl
  have y4 := HY.out 4 _ rfl
  clear HY HFAR HF z0 z1 z2 z3 z4 c1 f1
  generalize ((w1.alloc (.cells #[.int .i64 1, .string T, .int .i64 ln, .int .i64 cl] 64)).setCell ⟨pb, 1, none⟩ (.int .i64 ((st.pos : Int) + 1))) = W at *
  exact bodyPost_ret (v := .agg #[.int .i64 25, .string T, .string ⟨#[]⟩, .int .i64 0, .slice none 0 0]) (by simp [results, Tryz.results170, go_sem, y0, y1, y2, y3, y4]) rfl ⟨rfl, hfin.prs, hfin.mv⟩
end Go.Proofs.YtpdndpajobfhmabGreatDoor
