/- What parse.Parse answers of a source whose steps are told. -/
import Derived.Test.YtpdndpajobfhmabGreatDoorPcatch
namespace Go.Proofs.YtpdndpajobfhmabGreatDoor
open Go.ChangeShapes Go.WideShapes Go.ChangeAt Go.RowKit
set_option maxRecDepth 100000
set_option linter.unusedSimpArgs false
set_option linter.unusedVariables false

/-- A tree, as it lies in memory. -/
def TreeIn (w : World) (B : Nat) (tv : Value) (tree : List Nd) : Prop := ∃ kvs : List Value, kvs.length = tree.length ∧ w.ownsRow B 35 5 tv tree.length (ncells tree kvs) ∧ ∀ (i : Nat) n kv, tree[i]? = some n → kvs[i]? = some kv → w.ownsRow B 3 1 kv n.kids.length (kcells n.kids)
theorem row_base {w : World} {B B' e size n : Nat} {v : Value} {xs : List Value} (h : w.ownsRow B e size v n xs) (hB : B' ≤ B) : w.ownsRow B' e size v n xs := by
  refine ⟨h.1, ?_⟩
  rcases h.2 with h0 | ⟨g, cap, cur, rfl, h1, h2⟩
  · exact .inl h0
  · exact .inr ⟨g, cap, cur, rfl, Nat.le_trans hB h1, h2⟩
theorem TreeIn.on {w w' : World} {B B' : Nat} {tv : Value} {tree : List Nd} (h : TreeIn w B tv tree) (hB : B' ≤ B) (hb : ∀ k, B ≤ k → k < w.heap.size → w'.heap[k]? = w.heap[k]?) : TreeIn w' B' tv tree := by
  obtain ⟨kvs, h1, h2, h3⟩ := h
  have key : ∀ {e size n : Nat} {v : Value} {xs : List Value}, w.ownsRow B e size v n xs → w'.ownsRow B' e size v n xs := fun hr => row_base (row_of_block hr fun g hg => hb g (row_block hr hg).1 (row_block hr hg).2.1) hB
  exact ⟨kvs, h1, key h2, fun i n kv hn hk => key (h3 i n kv hn hk)⟩
theorem vars_two (w : World) : ((w.alloc (.cells #[.slice none 0 0] 22)).alloc (.cells #[.int .i64 0, .int .i64 0, .int .i64 0] 25)).heap[w.heap.size]? = some (.cells #[.slice none 0 0] 22 (0, 0)) ∧ ((w.alloc (.cells #[.slice none 0 0] 22)).alloc (.cells #[.int .i64 0, .int .i64 0, .int .i64 0] 25)).heap[w.heap.size + 1]? = some (.cells #[.int .i64 0, .int .i64 0, .int .i64 0] 25 (0, 0)) ∧ Below w.heap.size w ((w.alloc (.cells #[.slice none 0 0] 22)).alloc (.cells #[.int .i64 0, .int .i64 0, .int .i64 0] 25)) := by
  refine ⟨?_, ?_, ((Below.refl _ _).alloc (Nat.le_refl _) _).alloc (by simp) _⟩
  · rw [Lib.alloc_old _ _ w.heap.size (by simp)]; exact heap_alloc_new w _
  · have := heap_alloc_new (w.alloc (.cells #[.slice none 0 0] 22)) (.cells #[.int .i64 0, .int .i64 0, .int .i64 0] 25)
    simpa using this
theorem prs_start (W : World) (B : Nat) (toks : List Tk) (ao : Option Addr) (ca : Nat) (hB : B ≤ W.heap.size) (hr : W.ownsRow B 64 4 (.slice ao toks.length ca) toks.length (tcells toks)) :
    Prs B W.heap.size toks ⟨0, []⟩ (W.alloc (.cells #[.slice ao toks.length ca, .int .i64 0, .slice none 0 0] 47)) (.slice none 0 0) := by
  have hb : Below W.heap.size W (W.alloc (.cells #[.slice ao toks.length ca, .int .i64 0, .slice none 0 0] 47)) := (Below.refl _ _).alloc (Nat.le_refl _) _
  refine ⟨hB, ⟨.slice ao toks.length ca, heap_alloc_new W _, row_of_block hr fun g hg => hb.block g (row_block hr hg).2.1⟩, ⟨[], rfl, World.ownsRow_nil _ _ _ _, fun i n kv hi => by simp at hi⟩⟩
set_option maxHeartbeats 4000000 in
theorem own_parse0 (src : ByteArray) (w : World) (hs : src.size ≤ maxLen) (hlib : Lib3 w) (s : Sc) (hR : tokR src = .ok s) (hlen : s.ts.length ≤ 2000) (hmo : (mo s.ts s.ts.length).1 ≤ 40) (n : Nat) (r : List Nat) (st : Ps) (hrun : run s.ts n .file ⟨0, []⟩ = .ok r st) :
    Calls Tryz.prog 6 #[.string src] w fun e w' => Below w.heap.size w w' ∧ ∃ tv, e = .returned (.tuple #[tv, .agg #[.int .i64 0, .int .i64 0, .int .i64 0]]) ∧ TreeIn w' w.heap.size tv st.tree := by
  have hmf : ∀ (fn : Fn) (first cap : Array Value) (w : World), (Instr.makeFunc fn first cap).run Tryz.prog w = .ok (.func fn first cap) w := fun _ _ _ _ => rfl
  have HV0 := vars_two w
  obtain ⟨W0, hW0⟩ : ∃ W, W = ((w.alloc (.cells #[.slice none 0 0] 22)).alloc (.cells #[.int .i64 0, .int .i64 0, .int .i64 0] 25)) := ⟨_, rfl⟩
  have hz0 : W0.heap.size = w.heap.size + 2 := by rw [hW0]; simp
  rw [← hW0] at HV0
  have HV : Hid (W0.heap[w.heap.size]? = some (.cells #[.slice none 0 0] 22 (0, 0)) ∧ W0.heap[w.heap.size + 1]? = some (.cells #[.int .i64 0, .int .i64 0, .int .i64 0] 25 (0, 0)) ∧ Below w.heap.size w W0) := HV0
  have HZ : Hid (W0.heap.size = w.heap.size + 2) := hz0
  have HT : Hid (Calls Tryz.prog 15 #[.string src] W0 (Told W0 (tokR src))) := own_tokens src W0 hs (hlib.below HV0.2.2)
  unfold maxLen at hs
  clear HV0 hlib hz0
  go_enter_defers Tryz.func6, Tryz.ntmps6
  go_wp2_with fail
  rw [← hW0]
  clear hW0
  refine HT.out.mono ?_
  intro e w1 ht
  obtain ⟨hb1, ht⟩ := ht
  rw [hR] at ht
  obtain ⟨tv0, rfl, hown⟩ := ht
  obtain ⟨ao, ca, rfl⟩ : ∃ ao ca, tv0 = .slice ao s.ts.length ca := by
    rcases hown.2 with ⟨hv, h0⟩ | ⟨g, c, cur, hv, _⟩
    · exact ⟨none, 0, by rw [hv, h0]⟩
    · exact ⟨_, _, hv⟩
  have HB1 : Hid (Below W0.heap.size W0 w1 ∧ w1.ownsRow W0.heap.size 64 4 (.slice ao s.ts.length ca) s.ts.length (tcells s.ts)) := ⟨hb1, hown⟩
  have HMO : Hid (∀ W, Below w1.heap.size w1 W → Calls Tryz.prog 16 #[.slice ao s.ts.length ca] W fun e w' => e = .returned (.int .i64 ((mo s.ts s.ts.length).1 : Int)) ∧ Below W.heap.size W w') := fun W hW => own_most s.ts W0.heap.size W ao ca (row_on HB1.out.2 (Nat.le_refl _) hW) hlen
  clear hb1 hown HT
  generalize (mo s.ts s.ts.length).1 = mx at *
  have hmi : ¬ (40 : Int) < (mx : Int) := by omega
  go_wp2_with fail
  refine (HMO.out _ ((Below.refl _ _).alloc (Nat.le_refl _) _)).mono ?_
  rintro e w2 ⟨rfl, hb2⟩
  have hb12 : Below w1.heap.size w1 w2 := ((Below.refl w1.heap.size w1).alloc (Nat.le_refl _) _).trans (hb2.mono (by simp))
  have hsz : W0.heap.size ≤ w2.heap.size := Nat.le_trans HB1.out.1.size hb12.size
  have hrow2 := row_on HB1.out.2 (Nat.le_refl _) hb12
  have HPS : Hid (Prs W0.heap.size w2.heap.size s.ts ⟨0, []⟩ (w2.alloc (.cells #[.slice ao s.ts.length ca, .int .i64 0, .slice none 0 0] 47)) (.slice none 0 0)) := prs_start w2 W0.heap.size s.ts ao ca hsz hrow2
  have HB2 : Hid (Below W0.heap.size W0 (w2.alloc (.cells #[.slice ao s.ts.length ca, .int .i64 0, .slice none 0 0] 47))) := (HB1.out.1.trans (hb12.mono HB1.out.1.size)).alloc hsz _
  have HFI : Hid (Calls Tryz.prog 17 #[.pointer (some ⟨w2.heap.size, 0, none⟩)] (w2.alloc (.cells #[.slice ao s.ts.length ca, .int .i64 0, .slice none 0 0] 47)) (PO W0.heap.size w2.heap.size s.ts (w2.alloc (.cells #[.slice ao s.ts.length ca, .int .i64 0, .slice none 0 0] 47)) (.slice none 0 0) (fun _ => .tuple #[]) (.ok r st))) := by
    have := c_file s.ts n W0.heap.size w2.heap.size ⟨0, []⟩ _ _ ⟨HPS.out, hlen, Nat.zero_le _, Nat.zero_le _⟩ (by rw [hrun]; intro e; cases e)
    rwa [hrun] at this
  clear hb2 hb12 hsz hrow2 hrun
  go_wp2_with fail
  refine HFI.out.mono ?_
  rintro e w5 ⟨rfl, tv5, q5, m5⟩
  have hbe : Below W0.heap.size (w2.alloc (.cells #[.slice ao s.ts.length ca, .int .i64 0, .slice none 0 0] 47)) w5 := HPS.out.mv_below m5
  have HB5 : Hid (Below W0.heap.size W0 w5) := HB2.out.trans hbe
  obtain ⟨tq, tc, -, -, c2, -, -⟩ := q5.cells
  have HTR : Hid (TreeIn w5 W0.heap.size tv5 st.tree) := q5.row
  have v1 := (HB5.out.block w.heap.size (by have := HZ.out; omega)).trans HV.out.1
  have v2 := (HB5.out.block (w.heap.size + 1) (by have := HZ.out; omega)).trans HV.out.2.1
  have g0 : w5.cell? ⟨w.heap.size, 0, none⟩ = some (.slice none 0 0) := by simp [World.cell?, v1]
  have g1 : w5.cell? ⟨w.heap.size + 1, 0, none⟩ = some (.int .i64 0) := by simp [World.cell?, v2]
  have g2 : w5.cell? ⟨w.heap.size + 1, 1, none⟩ = some (.int .i64 0) := by simp [World.cell?, v2]
  have g3 : w5.cell? ⟨w.heap.size + 1, 2, none⟩ = some (.int .i64 0) := by simp [World.cell?, v2]
  have f0 : ∀ j, w5.frozen? ⟨w.heap.size, j, none⟩ = false := by intro j; simp [World.frozen?, v1]
  have f1 : ∀ j, w5.frozen? ⟨w.heap.size + 1, j, none⟩ = false := by intro j; simp [World.frozen?, v2]
  obtain ⟨to5, tl5, tc5, rfl⟩ : ∃ a l c, tv5 = .slice a l c := by
    obtain ⟨kvs, _, hr5, _⟩ := q5.row
    rcases hr5.2 with ⟨hv, h0⟩ | ⟨g, cap, cur, hv, _⟩
    · exact ⟨_, _, _, hv⟩
    · exact ⟨_, _, _, hv⟩
  have HV5 : Hid (w5.heap[w.heap.size]? = some (.cells #[.slice none 0 0] 22 (0, 0)) ∧ w5.heap[w.heap.size + 1]? = some (.cells #[.int .i64 0, .int .i64 0, .int .i64 0] 25 (0, 0))) := ⟨v1, v2⟩
  have HW4 : Hid (((((w5.setCell ⟨w.heap.size, 0, none⟩ (.slice to5 tl5 tc5)).setCell ⟨w.heap.size + 1, 0, none⟩ (.int .i64 0)).setCell ⟨w.heap.size + 1, 1, none⟩ (.int .i64 0)).setCell ⟨w.heap.size + 1, 2, none⟩ (.int .i64 0)).heap[w.heap.size]? = some (.cells #[.slice to5 tl5 tc5] 22 (0, 0)) ∧
      ((((w5.setCell ⟨w.heap.size, 0, none⟩ (.slice to5 tl5 tc5)).setCell ⟨w.heap.size + 1, 0, none⟩ (.int .i64 0)).setCell ⟨w.heap.size + 1, 1, none⟩ (.int .i64 0)).setCell ⟨w.heap.size + 1, 2, none⟩ (.int .i64 0)).heap[w.heap.size + 1]? = some (.cells #[.int .i64 0, .int .i64 0, .int .i64 0] 25 (0, 0)) ∧
      TreeIn ((((w5.setCell ⟨w.heap.size, 0, none⟩ (.slice to5 tl5 tc5)).setCell ⟨w.heap.size + 1, 0, none⟩ (.int .i64 0)).setCell ⟨w.heap.size + 1, 1, none⟩ (.int .i64 0)).setCell ⟨w.heap.size + 1, 2, none⟩ (.int .i64 0)) W0.heap.size (.slice to5 tl5 tc5) st.tree ∧ Below w.heap.size w ((((w5.setCell ⟨w.heap.size, 0, none⟩ (.slice to5 tl5 tc5)).setCell ⟨w.heap.size + 1, 0, none⟩ (.int .i64 0)).setCell ⟨w.heap.size + 1, 1, none⟩ (.int .i64 0)).setCell ⟨w.heap.size + 1, 2, none⟩ (.int .i64 0))) := by
    have x1 := HV5.out.1
    have x2 := HV5.out.2
    refine ⟨?_, ?_, ?_, ?_⟩
    · simp [World.setCell, Array.getElem?_modify, x1]
    · simp [World.setCell, Array.getElem?_modify, x2]
    · refine HTR.out.on (Nat.le_refl _) (fun k hk _ => ?_)
      have hz := HZ.out
      rw [Below.heap_setCell _ _ _ _ (by simp; omega), Below.heap_setCell _ _ _ _ (by simp; omega), Below.heap_setCell _ _ _ _ (by simp; omega), Below.heap_setCell _ _ _ _ (by simp; omega)]
    · have hb5 : Below w.heap.size w w5 := HV.out.2.2.trans (HB5.out.mono (by have := HZ.out; omega))
      exact (((hb5.setCell (p := ⟨w.heap.size, 0, none⟩) (Nat.le_refl _) _).setCell (p := ⟨w.heap.size + 1, 0, none⟩) (Nat.le_succ _) _).setCell (p := ⟨w.heap.size + 1, 1, none⟩) (Nat.le_succ _) _).setCell (p := ⟨w.heap.size + 1, 2, none⟩) (Nat.le_succ _) _
  clear q5 m5 hbe v1 v2
  go_wp2
  generalize ((((w5.setCell ⟨w.heap.size, 0, none⟩ (.slice to5 tl5 tc5)).setCell ⟨w.heap.size + 1, 0, none⟩ (.int .i64 0)).setCell ⟨w.heap.size + 1, 1, none⟩ (.int .i64 0)).setCell ⟨w.heap.size + 1, 2, none⟩ (.int .i64 0)) = W4 at *
  refine leaves_cons (f := 14) (args := #[.pointer (some ⟨w.heap.size, 0, none⟩), .pointer (some ⟨w.heap.size + 1, 0, none⟩)]) (by simp) (by simp [go_sem]) ?_
  refine (pcatch_idle w.heap.size (w.heap.size + 1) W4).mono ?_
  rintro e u' w'' ⟨rfl, rfl, hb⟩
  obtain ⟨y1, y2, y3, y4⟩ := HW4.out
  have u1 := (hb.block w.heap.size (Array.getElem?_eq_some_iff.1 y1).1).trans y1
  have u2 := (hb.block (w.heap.size + 1) (Array.getElem?_eq_some_iff.1 y2).1).trans y2
  have c0 : w''.cell? ⟨w.heap.size, 0, none⟩ = some (.slice to5 tl5 tc5) := by simp [World.cell?, u1]
  have s0 : w''.cell? ⟨w.heap.size + 1, 0, none⟩ = some (.int .i64 0) := by simp [World.cell?, u2]
  have s1 : w''.cell? ⟨w.heap.size + 1, 1, none⟩ = some (.int .i64 0) := by simp [World.cell?, u2]
  have s2 : w''.cell? ⟨w.heap.size + 1, 2, none⟩ = some (.int .i64 0) := by simp [World.cell?, u2]
  have HB : Hid (Below w.heap.size w w'' ∧ TreeIn w'' w.heap.size (.slice to5 tl5 tc5) st.tree) := ⟨y4.trans (hb.mono y4.size), y3.on (by have := HZ.out; omega) (fun k _ hk => hb.block k hk)⟩
  clear u1 u2 y1 y2 y3 y4 hb
  simp [Leaves, settle, results, Tryz.results6, go_sem, c0, s0, s1, s2]
  exact ⟨HB.out.1, HB.out.2⟩
end Go.Proofs.YtpdndpajobfhmabGreatDoor
