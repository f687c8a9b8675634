/- The scanner's state, and what column, giveUp and add do to it. -/
import Derived.Test.YtpdndpajobfhmabGreatDoorScnend
import Derived.Deep.QuietTactic
import Derived.BigQuiet
import Derived.Deep.RegionWith
import Derived.Test.YtpdndpajobfhmabGreatDoorHeadlaw
namespace Go.Proofs.YtpdndpajobfhmabGreatDoor
open Go.ChangeShapes Go.WideShapes Go.ChangeAt Go.RowKit
set_option maxRecDepth 100000
set_option linter.unusedSimpArgs false

/-- A token: kind, text, line, column. -/
structure Tk where
  kind : Int
  text : ByteArray
  line : Nat
  col : Nat
def Tk.cells (t : Tk) : List Value := [.int .i64 t.kind, .string t.text, .int .i64 t.line, .int .i64 t.col]
def tcells (l : List Tk) : List Value := l.flatMap Tk.cells
theorem tcells_len (l : List Tk) : (tcells l).length = l.length * 4 := by
  induction l with
  | nil => rfl
  | cons a l ih => simp [tcells] at ih ⊢; rw [ih]; simp [Tk.cells]; omega
theorem tcells_snoc (l : List Tk) (t : Tk) : tcells (l ++ [t]) = tcells l ++ t.cells := by simp [tcells]
/-- The state: the next byte, the line, where the line began, the tokens. -/
structure Sc where
  pos : Nat
  line : Nat
  bg : Nat
  ts : List Tk
def Sc.col (s : Sc) : Nat := s.pos - s.bg + 1
structure Sc.Ok (src : ByteArray) (s : Sc) : Prop where
  pos : s.pos ≤ src.size
  bg : s.bg ≤ s.pos
  line : s.line ≤ s.pos + 1
  size : src.size ≤ 8000
  len : s.ts.length ≤ 2000
/-- Block b holds the state; its tokens lie in a row of its own. -/
def Scn (B b : Nat) (src : ByteArray) (s : Sc) (w : World) : Prop :=
  B ≤ b ∧ ∃ v, w.heap[b]? = some (.cells #[.string src, .int .i64 s.pos, .int .i64 s.line, .int .i64 s.bg, v] 62 (0, 0)) ∧ w.ownsRow B 64 4 v s.ts.length (tcells s.ts) ∧ v.ownBlock ≠ some b
theorem Scn.lt {B b : Nat} {src : ByteArray} {s : Sc} {w : World} (h : Scn B b src s w) : b < w.heap.size := by
  obtain ⟨_, v, hb, _⟩ := h
  exact (Array.getElem?_eq_some_iff.1 hb).1
theorem Scn.drewN {B b : Nat} {src : ByteArray} {s : Sc} {w : World} (h : Scn B b src s w) (n : Nat) : Scn B b src s (w.drewN n) := h
/-- What a world with more in it keeps of it. -/
theorem Scn.below {B b : Nat} {src : ByteArray} {s : Sc} {w w' : World} (h : Scn B b src s w) (hb : Below w.heap.size w w') : Scn B b src s w' := by
  obtain ⟨h0, v, h1, h2, h3⟩ := h
  have hl : b < w.heap.size := (Array.getElem?_eq_some_iff.1 h1).1
  refine ⟨h0, v, (hb.block b hl).trans h1, ⟨h2.1, ?_⟩, h3⟩
  rcases h2.2 with h | ⟨g, cap, cur, e, hg, hh, r1, r2, r3, r4⟩
  · exact .inl h
  · exact .inr ⟨g, cap, cur, e, hg, (hb.block g (Array.getElem?_eq_some_iff.1 hh).1).trans hh, r1, r2, r3, r4⟩
theorem Scn.cells {B b : Nat} {src : ByteArray} {s : Sc} {w : World} (h : Scn B b src s w) :
    w.cell? ⟨b, 0, none⟩ = some (.string src) ∧ w.cell? ⟨b, 1, none⟩ = some (.int .i64 s.pos) ∧ w.cell? ⟨b, 2, none⟩ = some (.int .i64 s.line) ∧ w.cell? ⟨b, 3, none⟩ = some (.int .i64 s.bg) ∧ (∀ j, w.frozen? ⟨b, j, none⟩ = false) := by
  obtain ⟨_, v, hb, _⟩ := h
  simp [World.cell?, World.frozen?, hb]

set_option maxHeartbeats 1000000 in
theorem own_column (B b : Nat) (src : ByteArray) (s : Sc) (w : World) (h : Scn B b src s w) (ho : s.Ok src) :
    Calls Tryz.prog 87 #[.pointer (some ⟨b, 0, none⟩)] w fun e w' => e = .returned (.int .i64 s.col) ∧ ∃ n, w' = w.drewN n := by
  obtain ⟨c0, c1, c2, c3, f⟩ := h.cells
  obtain ⟨p, ln, bg, ts⟩ := s
  obtain ⟨o1, o2, o3, o4, o5⟩ := ho
  simp only at c1 c2 c3 o1 o2 o3
  have e : ((Sc.col ⟨p, ln, bg, ts⟩ : Nat) : Int) = (p : Int) - (bg : Int) + 1 := by unfold Sc.col; simp only; omega
  rw [e]
  have q1 : (0 : Int) ≤ (p : Int) - (bg : Int) := by omega
  have q2 : (p : Int) - (bg : Int) ≤ 8000 := by omega
  clear h e o5
  go_enter Tryz.func87, Tryz.ntmps87
  go_wp2
  go_quiet (fail)
  go_wp2
  go_ret
  exact ⟨rfl, nq, rfl⟩

theorem cells_new (w : World) (cs : List Value) (ty : TypeId) (j : Nat) (u : Value) (hu : cs[j]? = some u) : (w.alloc (.cells cs.toArray ty)).cell? ((⟨w.heap.size, 0, none⟩ : Addr).add j) = some u := by
  have h := heap_alloc_new w (.cells cs.toArray ty)
  have e : (⟨w.heap.size, 0, none⟩ : Addr).add j = ⟨w.heap.size, j, none⟩ := by
    rcases Nat.eq_zero_or_pos j with rfl | hj
    · simp [Addr.add]
    · have hj' : ¬ j = 0 := by omega
      simp [Addr.add, hj']
  rw [e, Lib.cell_of_heap h j]
  simpa using hu
theorem own_ne {w : World} {B b n : Nat} {v : Value} {xs : List Value} {cs : Array Value} {fr : Nat × Nat} (hown : w.ownsRow B 64 4 v n xs) (hb : w.heap[b]? = some (.cells cs 62 fr)) : v.ownBlock ≠ some b := by
  rcases hown.2 with ⟨rfl, _⟩ | ⟨g, cap, cur, rfl, _, hg, _⟩
  · simp [Value.ownBlock]
  · intro h
    simp only [Value.ownBlock, Option.some.injEq] at h
    subst h
    rw [hg] at hb
    simp at hb
theorem own_kept {w : World} {B b n i : Nat} {v u : Value} {xs : List Value} (hown : w.ownsRow B 64 4 v n xs) (hne : v.ownBlock ≠ some b) : (w.setCell ⟨b, i, none⟩ u).ownsRow B 64 4 v n xs :=
  hown.kept (row := some b) ⟨rfl, rfl, rfl, by simp [World.setCell], fun k _ hk => Below.heap_setCell _ _ _ _ (fun e => hk (by simp [e]))⟩ (Or.inr hne)
/-- The stores into its fields. -/
theorem scn_ts {B b : Nat} {src : ByteArray} {w : World} {p ln bg : Nat} {ts : List Tk} {v v' : Value} (hB : B ≤ b) (hb : w.heap[b]? = some (.cells #[.string src, .int .i64 p, .int .i64 ln, .int .i64 bg, v] 62 (0, 0))) (hown : w.ownsRow B 64 4 v' ts.length (tcells ts)) :
    Scn B b src ⟨p, ln, bg, ts⟩ (w.setCell ⟨b, 4, none⟩ v') := by
  have hne := own_ne hown hb
  exact ⟨hB, v', by simp [World.setCell, Array.getElem?_modify, hb], own_kept hown hne, hne⟩
theorem Scn.setPos {B b : Nat} {src : ByteArray} {s : Sc} {w : World} (h : Scn B b src s w) (p : Nat) : Scn B b src { s with pos := p } (w.setCell ⟨b, 1, none⟩ (.int .i64 p)) := by
  obtain ⟨hB, v, hb, hown, hne⟩ := h
  exact ⟨hB, v, by simp [World.setCell, Array.getElem?_modify, hb], own_kept hown hne, hne⟩
theorem Scn.setLine {B b : Nat} {src : ByteArray} {s : Sc} {w : World} (h : Scn B b src s w) (p : Nat) : Scn B b src { s with line := p } (w.setCell ⟨b, 2, none⟩ (.int .i64 p)) := by
  obtain ⟨hB, v, hb, hown, hne⟩ := h
  exact ⟨hB, v, by simp [World.setCell, Array.getElem?_modify, hb], own_kept hown hne, hne⟩
theorem Scn.setBg {B b : Nat} {src : ByteArray} {s : Sc} {w : World} (h : Scn B b src s w) (p : Nat) : Scn B b src { s with bg := p } (w.setCell ⟨b, 3, none⟩ (.int .i64 p)) := by
  obtain ⟨hB, v, hb, hown, hne⟩ := h
  exact ⟨hB, v, by simp [World.setCell, Array.getElem?_modify, hb], own_kept hown hne, hne⟩
/-- How it gives up. -/
def Gave (c : Int) (ln cl : Nat) : Ending := .panicked [{ v := .iface 25 (.agg #[.int .i64 c, .int .i64 ln, .int .i64 cl]), recovered := false }]
set_option maxHeartbeats 1000000 in
theorem own_giveUp (B b : Nat) (src : ByteArray) (s : Sc) (c : Int) (w : World) (h : Scn B b src s w) (ho : s.Ok src) :
    Calls Tryz.prog 55 #[.pointer (some ⟨b, 0, none⟩), .int .i64 c] w fun e w' => e = Gave c s.line s.col ∧ ∃ n, w' = w.drewN n := by
  obtain ⟨c0, c1, c2, c3, f⟩ := h.cells
  have HC : Hid (∀ n, Calls Tryz.prog 87 #[.pointer (some ⟨b, 0, none⟩)] (w.drewN n) fun e w' => e = .returned (.int .i64 s.col) ∧ ∃ m, w' = (w.drewN n).drewN m) := fun n => own_column B b src s _ (h.drewN n) ho
  go_enter Tryz.func55, Tryz.ntmps55
  go_wp2
  refine wp_region_any (by kernel_rfl) ?_
  refine wpAny_headS (fun W => ∃ n, W = w.drewN n) 0 6 7 4 ⟨1, rfl⟩ (by kernel_rfl) (shutl_none _) (fun _ _ d _ _ h => by cases d <;> exact h) (by kernel_rfl) (by kernel_rfl) (by kernel_rfl) ?_
  simp only [List.take_succ_cons, List.take_zero, List.drop_zero]
  repeat (refine wpValS_step _ (by rfl) (by rintro W ⟨n, rfl⟩; go_simp; try with_reducible rfl) ?_; try simp only [Act.put, List.setIfInBounds_toArray, List.set_cons_zero, List.set_cons_succ])
  refine wpValS_nil ?_
  refine T_one (i := 6) rfl (by kernel_rfl) (fun K hK => ?_)
  go_simp
  refine (HC.out 1).mono ?_
  rintro e w2 ⟨rfl, m, rfl⟩
  refine hK _ _ (fun _ => ⟨1 + m, by rw [World.drewN_drewN]⟩) ?_
  clear hK K
  refine tail_of (by kernel_rfl) ?_
  try simp only [Act.put, List.setIfInBounds_toArray, List.set_cons_zero, List.set_cons_succ]
  refine wpAny_ready (rs := [7]) (by kernel_rfl) (by simp) ?_
  refine AllReady.cons rfl (fun K hK => ?_) AllReady.nil
  go_simp
  refine hK _ _ ?_
  clear hK K
  try simp only [Act.put, List.setIfInBounds_toArray, List.set_cons_zero, List.set_cons_succ]
  refine wpAny_ready (rs := [8]) (by kernel_rfl) (by simp) ?_
  refine AllReady.cons rfl (fun K hK => ?_) AllReady.nil
  go_simp
  refine hK _ _ ?_
  clear hK K
  try simp only [Act.put, List.setIfInBounds_toArray, List.set_cons_zero, List.set_cons_succ]
  refine wpAny_ready (rs := [9]) (by kernel_rfl) (by simp) ?_
  refine AllReady.cons rfl (fun K hK => ?_) AllReady.nil
  go_simp
  exact ⟨rfl, rfl, 1 + m, rfl⟩
theorem Tryz.infoTok : (Tryz.prog.info? 64).map (fun i => (i.zero, i.size, i.bytes)) = some (some (.agg #[.int .i64 0, .string ⟨#[]⟩, .int .i64 0, .int .i64 0]), 4, 40) := by kernel_rfl
/-- The state with a token more. -/
def Sc.put (s : Sc) (k : Int) (t : ByteArray) : Sc := { s with ts := s.ts ++ [⟨k, t, s.line, s.col⟩] }
theorem below_dn {B : Nat} {a b : World} (h : Below B a b) (n : Nat) : Below B a (b.drewN n) := ⟨h.os, h.tape, h.output, h.size, h.block⟩
theorem below_drewN1 (w : World) (n : Nat) : Below w.heap.size w (w.drewN n) := ⟨rfl, rfl, rfl, Nat.le_refl _, fun _ _ => rfl⟩
set_option maxHeartbeats 2000000 in
theorem own_add (B b : Nat) (src : ByteArray) (s : Sc) (k : Int) (t : ByteArray) (w : World) (h : Scn B b src s w) (ho : s.Ok src) (hBw : B ≤ w.heap.size) (hl : s.ts.length < 2000) :
    Calls Tryz.prog 56 #[.pointer (some ⟨b, 0, none⟩), .int .i64 k, .string t] w fun e w' => e = .returned (.tuple #[]) ∧ Scn B b src (s.put k t) w' ∧ Below B w w' := by
  obtain ⟨i0, hi, hz0, hz1, hz2⟩ := info_parts Tryz.infoTok
  obtain ⟨c0, c1, c2, c3, f⟩ := h.cells
  have HC : Hid (∀ W, Below w.heap.size w W → Calls Tryz.prog 87 #[.pointer (some ⟨b, 0, none⟩)] W fun e w' => e = .returned (.int .i64 s.col) ∧ ∃ m, w' = W.drewN m) := fun W hW => own_column B b src s W (h.below hW) ho
  have hlt := h.lt
  obtain ⟨hB, v, hb, hown, hne⟩ := h
  obtain ⟨ao, cap, rfl⟩ : ∃ ao cap, v = .slice ao s.ts.length cap := by
    rcases hown.2 with ⟨hv, h0⟩ | ⟨g, cap, cur, hv, _⟩
    · exact ⟨none, 0, by rw [hv, h0]⟩
    · exact ⟨_, _, hv⟩
  have c4 : w.cell? ⟨b, 4, none⟩ = some (.slice ao s.ts.length cap) := by simp [World.cell?, hb]
  have HH : Hid (w.heap[b]? = some (.cells #[.string src, .int .i64 s.pos, .int .i64 s.line, .int .i64 s.bg, .slice ao s.ts.length cap] 62 (0, 0)) ∧ w.ownsRow B 64 4 (.slice ao s.ts.length cap) s.ts.length (tcells s.ts) ∧ (Value.slice ao s.ts.length cap).ownBlock ≠ some b) := ⟨hb, hown, hne⟩
  have HP : Hid (∀ W, Below w.heap.size w W → W.cell? ⟨b, 4, none⟩ = some (.slice ao s.ts.length cap) ∧ W.cell? ⟨b, 2, none⟩ = some (.int .i64 s.line)) := fun W hW => ⟨(hW.cell (p := ⟨b, 4, none⟩) hlt).trans c4, (hW.cell (p := ⟨b, 2, none⟩) hlt).trans c2⟩
  have hb2 : ((s.ts.length : Int) == 2000) = false := by rw [beq_eq_false_iff_ne]; omega
  clear hb hown hne
  go_enter Tryz.func56, Tryz.ntmps56
  go_wp2
  refine wp_region_any (by kernel_rfl) ?_
  refine wpAny_take (i := 0) rfl (by kernel_rfl) (by kernel_rfl) (by kernel_rfl) (fun _ _ _ h => h) (Or.inl ⟨by rfl, fun w => (by go_simp; try with_reducible rfl)⟩) ?_
  simp only [Act.put, List.setIfInBounds_toArray, List.set_cons_zero, List.set_cons_succ]
  refine wpAny_headS (fun W => Below w.heap.size w W) 1 11 15 7 (below_drewN1 w 1) (by kernel_rfl) (shutl_one (by kernel_rfl)) (fun _ _ d _ _ h => by cases d <;> exact h) (by kernel_rfl) (by kernel_rfl) (by kernel_rfl) ?_
  simp only [List.take_succ_cons, List.take_zero, List.drop_succ_cons, List.drop_zero]
  repeat (refine wpValS_step _ (by rfl) (by intro W hW; obtain ⟨p1, p2⟩ := HP.out W hW; go_simp; try with_reducible rfl) ?_; try simp only [Act.put, List.setIfInBounds_toArray, List.set_cons_zero, List.set_cons_succ])
  refine wpValS_nil ?_
  refine T_one (i := 12) rfl (by kernel_rfl) (fun K hK => ?_)
  go_simp
  refine (HC.out _ (below_drewN1 w 1)).mono ?_
  rintro e w2 ⟨rfl, m, rfl⟩
  refine hK _ _ (fun _ => below_dn (below_drewN1 w 1) m) ?_
  clear hK K
  try simp only [Act.put, List.setIfInBounds_toArray, List.set_cons_zero, List.set_cons_succ]
  refine T_one (i := 13) rfl (by kernel_rfl) (fun K hK => ?_)
  go_simp
  refine hK _ _ (fun _ => below_drewN1 w (1 + m)) ?_
  clear hK K
  try simp only [Act.put, List.setIfInBounds_toArray, List.set_cons_zero, List.set_cons_succ]
  refine T_one (i := 14) rfl (by kernel_rfl) (fun K hK => ?_)
  go_simp
  refine hK _ _ (fun _ => (below_drewN1 w (1 + m)).alloc (Nat.le_refl _) _) ?_
  clear hK K
  refine tail_of (by kernel_rfl) ?_
  try simp only [Act.put, List.setIfInBounds_toArray, List.set_cons_zero, List.set_cons_succ]
  refine wpAny_ready (rs := [15]) (by kernel_rfl) (by simp) ?_
  refine AllReady.cons rfl (fun K hK => ?_) AllReady.nil
  rw [if_pos (by rfl)]
  refine wp_append_own _ (.tmp 18) (.tmp 28) 42 rfl B 64 i0 _ 4 40 Tryz.underlying42 hi hz0 hz1 hz2 rfl (by decide) _ s.ts.length (tcells s.ts) rfl (HH.out.2.1.alloc _) ⟨w.heap.size, 0, none⟩ 1 1 (Tk.cells ⟨k, t, s.line, s.col⟩) rfl rfl ?c1 ?c2 ?c3 ?c4 ?c5 ?_
  case c1 => exact cells_new (w.drewN (1 + m)) (Tk.cells ⟨k, t, s.line, s.col⟩) _
  case c2 => intro u hu; simp [Tk.cells] at hu; rcases hu with rfl | rfl | rfl | rfl <;> rfl
  case c3 => unfold maxLen; omega
  case c4 => omega
  case c5 => simp; omega
  intro v' w3 hown' hgrow hnil
  have hb3 : w3.heap[b]? = some (.cells #[.string src, .int .i64 s.pos, .int .i64 s.line, .int .i64 s.bg, .slice ao s.ts.length cap] 62 (0, 0)) := by
    rw [hgrow.block b (by simp; omega) (fun e => HH.out.2.2 e.symm)]
    exact (Lib.alloc_old (w.drewN (1 + m)) _ b hlt).trans HH.out.1
  obtain ⟨ao', n', cap', hv'⟩ : ∃ ao' n' cap', v' = .slice ao' n' cap' := by
    rcases hown'.2 with ⟨h0, _⟩ | ⟨g, cap, cur, hv, _⟩
    · exact ⟨_, _, _, h0⟩
    · exact ⟨_, _, _, hv⟩
  subst hv'
  have f3 : w3.frozen? ⟨b, 4, none⟩ = false := by simp [World.frozen?, hb3]
  have d3 : w3.cell? ⟨b, 4, none⟩ = some (.slice ao s.ts.length cap) := by simp [World.cell?, hb3]
  refine hK _ _ ?_
  clear hK K
  try simp only [Act.put, List.setIfInBounds_toArray, List.set_cons_zero, List.set_cons_succ]
  refine wpAny_ready (rs := [16]) (by kernel_rfl) (by simp) ?_
  refine AllReady.cons rfl (fun K hK => ?_) AllReady.nil
  go_simp
  refine hK _ _ ?_
  clear hK K
  try simp only [Act.put, List.setIfInBounds_toArray, List.set_cons_zero, List.set_cons_succ]
  refine wpAny_ready (rs := [17]) (by kernel_rfl) (by simp) ?_
  refine AllReady.cons rfl (fun K hK => ?_) AllReady.nil
  go_simp
  refine hK _ _ ?_
  clear hK K
  try simp only [Act.put, List.setIfInBounds_toArray, List.set_cons_zero, List.set_cons_succ]
  refine wpAny_ready (rs := [18]) (by kernel_rfl) (by simp) ?_
  refine AllReady.cons rfl (fun K hK => ?_) AllReady.nil
  go_simp
  refine hK _ _ ?_
  clear hK K
  try simp only [Act.put, List.setIfInBounds_toArray, List.set_cons_zero, List.set_cons_succ]
  have HS : Hid (Scn B b src (s.put k t) (w3.setCell ⟨b, 4, none⟩ (.slice ao' n' cap'))) := scn_ts (p := s.pos) (ln := s.line) (bg := s.bg) hB hb3 (by rw [tcells_snoc, List.length_append]; exact hown')
  have HB : Hid (Below B w (w3.setCell ⟨b, 4, none⟩ (.slice ao' n' cap'))) := ((((below_drewN1 w (1 + m)).mono hBw).alloc hBw _).grown hgrow (by simp; omega) (fun q hq => (HH.out.2.1.lt q hq).1)).setCell (p := ⟨b, 4, none⟩) hB _
  refine wpAny_done (by kernel_rfl) ?_ _
  go_wp2
  go_end0
  exact ⟨rfl, HS.out, HB.out⟩
set_option maxHeartbeats 1000000 in
theorem own_add_full (B b : Nat) (src : ByteArray) (s : Sc) (k : Int) (t : ByteArray) (w : World) (h : Scn B b src s w) (ho : s.Ok src) (hl : s.ts.length = 2000) :
    Calls Tryz.prog 56 #[.pointer (some ⟨b, 0, none⟩), .int .i64 k, .string t] w fun e w' => e = Gave 15 s.line s.col ∧ Below w.heap.size w w' := by
  have HG : Hid (Calls Tryz.prog 55 #[.pointer (some ⟨b, 0, none⟩), .int .i64 15] w fun e w' => e = Gave 15 s.line s.col ∧ ∃ n, w' = w.drewN n) := own_giveUp B b src s 15 w h ho
  obtain ⟨hB, v, hb, hown, hne⟩ := h
  obtain ⟨ao, cap, rfl⟩ : ∃ ao cap, v = .slice ao 2000 cap := by
    rcases hown.2 with ⟨hv, h0⟩ | ⟨g, cap, cur, hv, _⟩
    · omega
    · exact ⟨_, _, by rw [hv, hl]⟩
  have c4 : w.cell? ⟨b, 4, none⟩ = some (.slice ao 2000 cap) := by simp [World.cell?, hb]
  clear hb hown hne hl ho
  go_enter Tryz.func56, Tryz.ntmps56
  go_wp2_with fail
  refine HG.out.mono ?_
  rintro e w1 ⟨rfl, n, rfl⟩
  exact ⟨rfl, rfl, below_drewN1 w n⟩
end Go.Proofs.YtpdndpajobfhmabGreatDoor
