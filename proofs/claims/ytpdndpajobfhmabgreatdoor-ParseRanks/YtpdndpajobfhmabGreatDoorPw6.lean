/- The parser's steps over heads of functions. -/
import Derived.Test.YtpdndpajobfhmabGreatDoorPw5
namespace Go.Proofs.YtpdndpajobfhmabGreatDoor
open Go.ChangeShapes Go.WideShapes Go.ChangeAt Go.RowKit
set_option maxRecDepth 100000
set_option linter.unusedSimpArgs false
set_option linter.unusedVariables false

/-- A node of the call's own, with a list of kids of its own, beside the parser. -/
structure HR (B pb : Nat) (toks : List Tk) (w : World) (tv : Value) (st : Ps) (W : World) (tv1 : Value) (kids : List Nat) (v : Value) (cs : Array Value) : Prop where
  kr : KRel B pb toks w tv st W tv1 kids v
  tree : some w.heap.size ≠ tv1.ownBlock
  blk : W.heap[w.heap.size]? = some (.cells cs 35 (0, 0))
theorem HR.step {B pb : Nat} {toks : List Tk} {w W W2 : World} {tv tv1 tv2 v : Value} {st st2 : Ps} {kids : List Nat} {cs : Array Value} (h : HR B pb toks w tv st W tv1 kids v cs) (hm : Mv pb W tv1 W2 tv2) (hs : Sit B pb toks st2 W2 tv2) : HR B pb toks w tv st2 W2 tv2 kids v cs := by
  have hlt : w.heap.size < W.heap.size := (Array.getElem?_eq_some_iff.1 h.blk).1
  refine ⟨h.kr.step hm hs, ?_, ?_⟩
  · rcases hm.own with e | e
    · rw [e]; exact h.tree
    · intro e'; have := e _ e'.symm; omega
  · rw [hm.block _ hlt (fun e => ?_) h.tree]
    · exact h.blk
    · obtain ⟨tov, h1, _⟩ := h.kr.sit.prs.blk
      have hb := h.blk
      rw [e, h1] at hb
      simp at hb
theorem HR.put {B pb : Nat} {toks : List Tk} {w W w3 : World} {tv tv1 v v' : Value} {st : Ps} {kids : List Nat} {k : Nat} {o : Obj} {cs : Array Value} (h : HR B pb toks w tv st W tv1 kids v cs)
    (hg : (W.alloc o).grownBy w3 v.ownBlock) (ho : w3.ownsRow B 3 1 v' (kids.length + 1) (kcells kids ++ [.int .i64 (k : Int)])) (hat : v'.ownBlock = v.ownBlock ∨ v'.ownBlock = some (W.heap.size + 1)) :
    HR B pb toks w tv st w3 tv1 (kids ++ [k]) v' cs := by
  have hlt : w.heap.size < W.heap.size := (Array.getElem?_eq_some_iff.1 h.blk).1
  refine ⟨h.kr.put hg ho hat, h.tree, ?_⟩
  rw [hg.block _ (by simp; omega) (fun e => ?_), Below.heap_alloc _ _ _ hlt]
  · exact h.blk
  · obtain ⟨_, _, cur, hh⟩ := row_block h.kr.row e.symm
    rw [h.blk] at hh
    simp at hh
theorem HR.set {B pb : Nat} {toks : List Tk} {w W : World} {tv tv1 v : Value} {st : Ps} {kids : List Nat} {cs : Array Value} (h : HR B pb toks w tv st W tv1 kids v cs) (o : Nat) (u : Value) :
    HR B pb toks w tv st (W.setCell ⟨w.heap.size, o, none⟩ u) tv1 kids v (cs.setIfInBounds o u) := by
  have hf : Far B pb toks st w tv W tv1 w.heap.size := ⟨h.kr.sit.prs, h.kr.mv, Nat.le_refl _, h.tree, _, _, h.blk⟩
  have hf2 := hf.set o u
  have hoth : ∀ k, k ≠ w.heap.size → (W.setCell ⟨w.heap.size, o, none⟩ u).heap[k]? = W.heap[k]? := fun k hk => Below.heap_setCell _ _ _ _ (by simpa using hk)
  refine ⟨⟨⟨hf2.prs, h.kr.sit.n, h.kr.sit.pos, h.kr.sit.tree⟩, hf2.mv, row_of_block h.kr.row fun q hq => hoth q (fun e => ?_), fun g hg => ⟨(h.kr.far g hg).1, fun b n c k kv e hk hc => ?_⟩⟩, h.tree, ?_⟩
  · obtain ⟨_, _, cur, hh⟩ := row_block h.kr.row hq
    rw [e, h.blk] at hh
    simp at hh
  · subst e
    rw [World.cell?_of_block (a := ⟨b, k * 5 + 4, none⟩) (hoth b (fun e' => h.tree (by rw [← e']; rfl)))] at hc
    exact (h.kr.far g hg).2 b n c k kv rfl hk hc
  · simp [World.setCell, Array.getElem?_modify, h.blk]
theorem HR.cell {B pb : Nat} {toks : List Tk} {w W : World} {tv tv1 v : Value} {st : Ps} {kids : List Nat} {cs : Array Value} (h : HR B pb toks w tv st W tv1 kids v cs) {j : Nat} {u : Value} (hu : cs[j]? = some u) : W.cell? ⟨w.heap.size, j, none⟩ = some u ∧ W.frozen? ⟨w.heap.size, j, none⟩ = false :=
  ⟨by simp [World.cell?, h.blk, hu], by simp [World.frozen?, h.blk]⟩
/-- The node as it is boxed at the beginning. -/
theorem hr_start {B pb : Nat} {toks : List Tk} {st : Ps} {w : World} {tv : Value} (h : Sit B pb toks st w tv) (cs : Array Value) : HR B pb toks w tv st (w.alloc (.cells cs 35)) tv [] (.slice none 0 0) cs := by
  have hb : Below w.heap.size w (w.alloc (.cells cs 35)) := (Below.refl _ _).alloc (Nat.le_refl _) _
  refine ⟨⟨⟨h.prs.below hb, h.n, h.pos, h.tree⟩, h.prs.mvb hb, nil_row _ _, fun g hg => by cases hg⟩, fun e => ?_, heap_alloc_new w _⟩
  have := (h.prs.tv_own e.symm).2.1
  omega
def CResult (toks : List Tk) (n : Nat) : Prop := ∀ B pb st w tv, Sit B pb toks st w tv → run toks n .result st ≠ .na → Calls Tryz.prog 90 #[.pointer (some ⟨pb, 0, none⟩)] w (PO B pb toks w tv ret1 (run toks n .result st))
set_option maxHeartbeats 2000000 in
theorem c_result (toks : List Tk) (n : Nat) : CResult toks n := by
  intro B pb st w tv hs hna
  cases n with
  | zero => exact absurd rfl hna
  | succ n =>
    simp only [run] at hna ⊢
    by_cases h1 : isP toks st ⟨#[40]⟩ = true
    · rw [if_pos h1] at hna; exact absurd rfl hna
    by_cases h2 : isP toks st ⟨#[123]⟩ = true
    · rw [if_neg h1, if_pos h2]
      have hp := hs.pos
      have hn := hs.n
      have htr := hs.tree
      have e1 : isP toks st ⟨#[40]⟩ = false := by simpa using h1
      have HT : Hid (∀ W tvx, Prs B pb toks st W tvx → Calls Tryz.prog 61 #[.pointer (some ⟨pb, 0, none⟩), .string ⟨#[40]⟩] W fun e w' => e = .returned (.bool false) ∧ Prs B pb toks st w' tvx ∧ Mv pb W tvx w' tvx) := fun W tvx h => take_no e1 hn (by omega) h
      have HI : Hid (∀ W tvx, Prs B pb toks st W tvx → Calls Tryz.prog 28 #[.pointer (some ⟨pb, 0, none⟩), .string ⟨#[123]⟩] W fun e w' => e = .returned (.bool true) ∧ Below W.heap.size W w') := fun W tvx h => is_at h2 hn (by omega) h
      have HLA : Hid (∀ W tvx, Prs B pb toks st W tvx → Calls Tryz.prog 31 #[.pointer (some ⟨pb, 0, none⟩), Nd.val ⟨4, ⟨#[]⟩, ⟨#[]⟩, 0, []⟩ (.slice none 0 0)] W fun e w' => e = .returned (.int .i64 st.tree.length) ∧ ∃ tv', Prs B pb toks (st.lay ⟨4, ⟨#[]⟩, ⟨#[]⟩, 0, []⟩) w' tv' ∧ Mv pb W tvx w' tv') := fun W tvx h => own_lay B pb toks st W tvx ⟨4, ⟨#[]⟩, ⟨#[]⟩, 0, []⟩ none 0 0 h (nil_row W B) (by omega)
      unfold Nd.val at HLA
      have HST : Hid (HR B pb toks w tv st (w.alloc (.cells #[.int .i64 4, .string ⟨#[]⟩, .string ⟨#[]⟩, .int .i64 0, .slice none 0 0] 35)) tv [] (.slice none 0 0) #[.int .i64 4, .string ⟨#[]⟩, .string ⟨#[]⟩, .int .i64 0, .slice none 0 0]) := hr_start hs _
      generalize st.lay ⟨4, ⟨#[]⟩, ⟨#[]⟩, 0, []⟩ = st2 at *
      clear hna hs h1 h2 e1
      go_enter Tryz.func90, Tryz.ntmps90
      go_wp2_with fail
      refine (HT.out _ _ HST.out.kr.sit.prs).mono ?_
      rintro e w1 ⟨rfl, q1, m1⟩
      have HQ1 : Hid (HR B pb toks w tv st w1 tv [] (.slice none 0 0) #[.int .i64 4, .string ⟨#[]⟩, .string ⟨#[]⟩, .int .i64 0, .slice none 0 0]) := HST.out.step m1 ⟨q1, hn, hp, htr⟩
      clear q1 m1
      go_wp2_with fail
      refine (HI.out _ _ HQ1.out.kr.sit.prs).mono ?_
      rintro e w2 ⟨rfl, hb2⟩
      have HQ2 : Hid (HR B pb toks w tv st w2 tv [] (.slice none 0 0) #[.int .i64 4, .string ⟨#[]⟩, .string ⟨#[]⟩, .int .i64 0, .slice none 0 0]) := HQ1.out.step (HQ1.out.kr.sit.prs.mvb hb2) ⟨HQ1.out.kr.sit.prs.below hb2, hn, hp, htr⟩
      have z0 := (HQ2.out.cell (j := 0) rfl).1
      have z1 := (HQ2.out.cell (j := 1) rfl).1
      have z2 := (HQ2.out.cell (j := 2) rfl).1
      have z3 := (HQ2.out.cell (j := 3) rfl).1
      have z4 := (HQ2.out.cell (j := 4) rfl).1
      clear hb2
      go_wp2_with fail
      refine (HLA.out _ _ HQ2.out.kr.sit.prs).mono ?_
      rintro e w3 ⟨rfl, tv3, q3, m3⟩
      have HQ3 : Hid (Prs B pb toks st2 w3 tv3 ∧ Mv pb w tv w3 tv3) := ⟨q3, HQ2.out.kr.mv.trans m3⟩
      clear q3 m3
      go_wp2
      go_ret
      exact ⟨rfl, _, HQ3.out⟩
    · rw [if_neg h1, if_neg h2] at hna; exact absurd rfl hna
/-- An empty list. -/
theorem own_list0 (B pb : Nat) (toks : List Tk) (st : Ps) (w : World) (tv : Value) (s : ByteArray) (fv : Value) (hi : isP toks st s = true) (h : Sit B pb toks st w tv) :
    Calls Tryz.prog 88 #[.pointer (some ⟨pb, 0, none⟩), .string s, fv] w fun e w' => e = .returned (.slice none 0 0) ∧ Prs B pb toks st.next w' tv ∧ Mv pb w tv w' tv := by
  have hn := h.n
  have hp := h.pos
  have HT : Hid (Calls Tryz.prog 61 #[.pointer (some ⟨pb, 0, none⟩), .string s] w fun e w' => e = .returned (.bool true) ∧ Prs B pb toks st.next w' tv ∧ Mv pb w tv w' tv) := take_yes hi hn (by omega) h.prs
  clear h hi
  go_enter Tryz.func88, Tryz.ntmps88
  go_wp2_with fail
  refine HT.out.mono ?_
  rintro e w1 ⟨rfl, q, m⟩
  have HQ : Hid (Prs B pb toks st.next w1 tv ∧ Mv pb w tv w1 tv) := ⟨q, m⟩
  clear q m
  go_wp2
  go_ret
  exact ⟨rfl, HQ.out⟩
end Go.Proofs.YtpdndpajobfhmabGreatDoor
