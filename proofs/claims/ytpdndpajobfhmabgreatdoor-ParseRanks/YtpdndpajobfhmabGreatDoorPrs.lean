/- The parser's state in memory. -/
import Derived.Test.YtpdndpajobfhmabGreatDoorTok3
namespace Go.Proofs.YtpdndpajobfhmabGreatDoor
open Go.ChangeShapes Go.WideShapes Go.ChangeAt Go.RowKit
set_option maxRecDepth 100000
set_option linter.unusedSimpArgs false
set_option linter.unusedVariables false

/-- A node, its kids by their places. -/
structure Nd where
  kind : Int
  text : ByteArray
  typ : ByteArray
  num : Int
  kids : List Nat
def Nd.cells (n : Nd) (kv : Value) : List Value := [.int .i64 n.kind, .string n.text, .string n.typ, .int .i64 n.num, kv]
def kcells (l : List Nat) : List Value := l.map fun k : Nat => Value.int .i64 (k : Int)
theorem kcells_len (l : List Nat) : (kcells l).length = l.length := by simp [kcells]
def ncells : List Nd → List Value → List Value
  | n :: l, kv :: ks => n.cells kv ++ ncells l ks
  | _, _ => []
theorem ncells_snoc : ∀ (l : List Nd) (ks : List Value) (n : Nd) (kv : Value), ks.length = l.length → ncells (l ++ [n]) (ks ++ [kv]) = ncells l ks ++ n.cells kv
  | [], [], n, kv, _ => by simp [ncells]
  | x :: l, k :: ks, n, kv, h => by
    simp only [List.cons_append, ncells, List.append_assoc]
    rw [ncells_snoc l ks n kv (by simpa using h)]
  | [], k :: ks, _, _, h => by simp at h
  | x :: l, [], _, _, h => by simp at h
theorem ncells_get : ∀ (l : List Nd) (ks : List Value) (k i : Nat) (n : Nd) (kv : Value), i < 5 → l[k]? = some n → ks[k]? = some kv → (ncells l ks)[k * 5 + i]? = (n.cells kv)[i]?
  | [], _, k, i, n, kv, _, h, _ => by simp at h
  | x :: l, [], k, i, n, kv, _, _, h => by simp at h
  | x :: l, y :: ks, 0, i, n, kv, hi, h1, h2 => by
    simp at h1 h2
    subst h1; subst h2
    rw [ncells, List.getElem?_append_left (by simp [Nd.cells]; omega)]
    simp
  | x :: l, y :: ks, k + 1, i, n, kv, hi, h1, h2 => by
    have := ncells_get l ks k i n kv hi (by simpa using h1) (by simpa using h2)
    rw [ncells, List.getElem?_append_right (by simp [Nd.cells]; omega), ← this]
    congr 1
    simp [Nd.cells]; omega
/-- Where the parser is, and what it has laid. -/
structure Ps where
  pos : Nat
  tree : List Nd
structure Prs (B pb : Nat) (toks : List Tk) (st : Ps) (w : World) (tv : Value) : Prop where
  low : B ≤ pb
  blk : ∃ tov, w.heap[pb]? = some (.cells #[tov, .int .i64 st.pos, tv] 47 (0, 0)) ∧ w.ownsRow B 64 4 tov toks.length (tcells toks)
  row : ∃ kvs : List Value, kvs.length = st.tree.length ∧ w.ownsRow B 35 5 tv st.tree.length (ncells st.tree kvs) ∧ ∀ (i : Nat) n kv, st.tree[i]? = some n → kvs[i]? = some kv → w.ownsRow B 3 1 kv n.kids.length (kcells n.kids)
/-- No node's kids lie in block g. -/
def NoIn (w : World) (tv : Value) (g : Nat) : Prop := ∀ b n c k kv, tv = .slice (some ⟨b, 0, none⟩) n c → k < n → w.cell? ⟨b, k * 5 + 4, none⟩ = some kv → kv.ownBlock ≠ some g
/-- From one world to a later one: but for the parser and its tree nothing old has turned; new nodes have kids in new memory, or in block x. -/
structure MvX (pb : Nat) (x : Option Nat) (w : World) (tv : Value) (w' : World) (tv' : Value) : Prop where
  os : w'.os = w.os
  tape : w'.tape = w.tape
  output : w'.output = w.output
  size : w.heap.size ≤ w'.heap.size
  block : ∀ k, k < w.heap.size → k ≠ pb → some k ≠ tv.ownBlock → w'.heap[k]? = w.heap[k]?
  own : tv'.ownBlock = tv.ownBlock ∨ ∀ q, tv'.ownBlock = some q → w.heap.size ≤ q
  ap : ∀ g, g < w.heap.size → some g ≠ x → NoIn w tv g → NoIn w' tv' g
def Mv (pb : Nat) (w : World) (tv : Value) (w' : World) (tv' : Value) : Prop := MvX pb none w tv w' tv'
theorem Mv.refl (pb : Nat) (w : World) (tv : Value) : Mv pb w tv w tv := ⟨rfl, rfl, rfl, Nat.le_refl _, fun _ _ _ _ => rfl, .inl rfl, fun _ _ _ h => h⟩
theorem MvX.trans {pb : Nat} {x y : Option Nat} {w w1 w2 : World} {a b c : Value} (h1 : MvX pb x w a w1 b) (h2 : MvX pb y w1 b w2 c) (hy : ∀ g, g < w.heap.size → some g ≠ x → some g ≠ y) : MvX pb x w a w2 c := by
  refine ⟨h2.os.trans h1.os, h2.tape.trans h1.tape, h2.output.trans h1.output, Nat.le_trans h1.size h2.size, fun k hk hp ho => ?_, ?_, fun g hg hx hn => h2.ap g (Nat.lt_of_lt_of_le hg h1.size) (hy g hg hx) (h1.ap g hg hx hn)⟩
  · have : some k ≠ b.ownBlock := by
      rcases h1.own with h | h
      · rw [h]; exact ho
      · intro e; have := h k e.symm; omega
    exact (h2.block k (Nat.lt_of_lt_of_le hk h1.size) hp this).trans (h1.block k hk hp ho)
  · rcases h2.own with h | h
    · rcases h1.own with h' | h'
      · exact .inl (h.trans h')
      · exact .inr (fun q hq => h' q (by rw [← h]; exact hq))
    · exact .inr (fun q hq => Nat.le_trans h1.size (h q hq))
theorem Mv.trans {pb : Nat} {w w1 w2 : World} {a b c : Value} (h1 : Mv pb w a w1 b) (h2 : Mv pb w1 b w2 c) : Mv pb w a w2 c := MvX.trans h1 h2 (fun g _ _ e => by cases e)
/-- .. where the other's exception is new memory. -/
theorem Mv.then {pb : Nat} {y : Option Nat} {w w1 w2 : World} {a b c : Value} (h1 : Mv pb w a w1 b) (h2 : MvX pb y w1 b w2 c) (hy : ∀ q, y = some q → w.heap.size ≤ q) : Mv pb w a w2 c := MvX.trans h1 h2 (fun g hg _ e => by have := hy g e.symm; omega)
theorem Mv.below {pb B : Nat} {x : Option Nat} {w w' : World} {tv tv' : Value} (h : MvX pb x w tv w' tv') (hp : B ≤ pb) (hB : B ≤ w.heap.size) (ho : ∀ q, tv.ownBlock = some q → B ≤ q) : Below B w w' :=
  ⟨h.os, h.tape, h.output, h.size, fun k hk => h.block k (by omega) (by omega) (fun e => by have := ho k e.symm; omega)⟩
theorem row_of_block {w w' : World} {B e size n : Nat} {v : Value} {xs : List Value} (h : w.ownsRow B e size v n xs) (hb : ∀ g, v.ownBlock = some g → w'.heap[g]? = w.heap[g]?) : w'.ownsRow B e size v n xs := by
  refine ⟨h.1, ?_⟩
  rcases h.2 with h0 | ⟨g, cap, cur, rfl, h1, h2, h3⟩
  · exact .inl h0
  · exact .inr ⟨g, cap, cur, rfl, h1, by rw [hb g rfl]; exact h2, h3⟩
theorem row_block {w : World} {B e size n g : Nat} {v : Value} {xs : List Value} (h : w.ownsRow B e size v n xs) (hg : v.ownBlock = some g) : B ≤ g ∧ g < w.heap.size ∧ ∃ cur, w.heap[g]? = some (.cells cur e (0, 0)) := by
  rcases h.2 with ⟨rfl, _⟩ | ⟨g', cap, cur, rfl, h1, h2, h3⟩
  · cases hg
  · cases hg
    exact ⟨h1, (Array.getElem?_eq_some_iff.1 h2).1, cur, h2⟩
theorem Prs.tv_own {B pb : Nat} {toks : List Tk} {st : Ps} {w : World} {tv : Value} (h : Prs B pb toks st w tv) {g : Nat} (hg : tv.ownBlock = some g) : B ≤ g ∧ g < w.heap.size ∧ ∃ cur, w.heap[g]? = some (.cells cur 35 (0, 0)) := by
  obtain ⟨kvs, _, hr, _⟩ := h.row
  exact row_block hr hg
theorem Prs.lt {B pb : Nat} {toks : List Tk} {st : Ps} {w : World} {tv : Value} (h : Prs B pb toks st w tv) : pb < w.heap.size := by
  obtain ⟨tov, hb, _⟩ := h.blk
  exact (Array.getElem?_eq_some_iff.1 hb).1
theorem Prs.mv_below {B pb : Nat} {toks : List Tk} {st : Ps} {w w' : World} {tv tv' : Value} (h : Prs B pb toks st w tv) (m : Mv pb w tv w' tv') : Below B w w' :=
  Mv.below m h.low (Nat.le_trans h.low (Nat.le_of_lt h.lt)) (fun q hq => (h.tv_own hq).1)
/-- A row of whatever but nodes is kept. -/
theorem Prs.keep {B B' pb e size n : Nat} {toks : List Tk} {st : Ps} {w w' : World} {tv tv' v : Value} {xs : List Value} (h : Prs B pb toks st w tv) {x : Option Nat} (m : MvX pb x w tv w' tv') (hr : w.ownsRow B' e size v n xs) (h1 : e ≠ 47) (h2 : e ≠ 35) : w'.ownsRow B' e size v n xs :=
  row_of_block hr fun g hg => by
    obtain ⟨_, hlt, cur, hh⟩ := row_block hr hg
    refine m.block g hlt (fun e => ?_) (fun e => ?_)
    · subst e
      obtain ⟨tov, hb, _⟩ := h.blk
      rw [hh] at hb
      simp at hb
      exact h1 hb.2
    · obtain ⟨_, _, cur', hh'⟩ := h.tv_own e.symm
      rw [hh] at hh'
      simp at hh'
      exact h2 hh'.2
theorem Prs.mvb {B pb : Nat} {toks : List Tk} {st : Ps} {w w' : World} {tv : Value} (h : Prs B pb toks st w tv) (hb : Below w.heap.size w w') : Mv pb w tv w' tv := by
  refine ⟨hb.os, hb.tape, hb.output, hb.size, fun k hk _ _ => hb.block k hk, .inl rfl, fun g _ _ hn b n c k kv e hk hc => ?_⟩
  subst e
  rw [hb.cell (p := ⟨b, k * 5 + 4, none⟩) (h.tv_own rfl).2.1] at hc
  exact hn b n c k kv rfl hk hc
theorem Prs.below {B pb : Nat} {toks : List Tk} {st : Ps} {w w' : World} {tv : Value} (h : Prs B pb toks st w tv) (hb : Below w.heap.size w w') : Prs B pb toks st w' tv := by
  obtain ⟨tov, h1, h2⟩ := h.blk
  obtain ⟨kvs, h3, h4, h5⟩ := h.row
  have key : ∀ {e size n : Nat} {v : Value} {xs : List Value}, w.ownsRow B e size v n xs → w'.ownsRow B e size v n xs := fun hr => row_of_block hr fun g hg => hb.block g (row_block hr hg).2.1
  exact ⟨h.low, ⟨tov, (hb.block _ h.lt).trans h1, key h2⟩, ⟨kvs, h3, key h4, fun i n kv hn hk => key (h5 i n kv hn hk)⟩⟩
theorem Prs.cells {B pb : Nat} {toks : List Tk} {st : Ps} {w : World} {tv : Value} (h : Prs B pb toks st w tv) :
    ∃ (tq : Option Addr) (tc : Nat), w.cell? ⟨pb, 0, none⟩ = some (.slice tq toks.length tc) ∧ w.cell? ⟨pb, 1, none⟩ = some (.int .i64 st.pos) ∧ w.cell? ⟨pb, 2, none⟩ = some tv ∧ (∀ o, w.frozen? ⟨pb, o, none⟩ = false) ∧
      (∀ (k : Nat) t, toks[k]? = some t → ∃ g, tq = some ⟨g, 0, none⟩ ∧ w.cell? ⟨g, k * 4, none⟩ = some (.int .i64 t.kind) ∧ w.cell? ⟨g, k * 4 + 1, none⟩ = some (.string t.text) ∧ w.cell? ⟨g, k * 4 + 2, none⟩ = some (.int .i64 t.line) ∧ w.cell? ⟨g, k * 4 + 3, none⟩ = some (.int .i64 t.col)) := by
  obtain ⟨tov, h1, h2⟩ := h.blk
  obtain ⟨tq, tc, rfl⟩ : ∃ tq tc, tov = .slice tq toks.length tc := by
    rcases h2.2 with ⟨hv, h0⟩ | ⟨g, cap, cur, hv, _⟩
    · exact ⟨none, 0, by rw [hv, h0]⟩
    · exact ⟨_, _, hv⟩
  refine ⟨tq, tc, by simp [World.cell?, h1], by simp [World.cell?, h1], by simp [World.cell?, h1], fun o => by simp [World.frozen?, h1], fun k t hk => ?_⟩
  have hlt : k < toks.length := (List.getElem?_eq_some_iff.1 hk).1
  rcases h2.2 with ⟨hv, h0⟩ | ⟨g, c, cur, hv, _⟩
  · omega
  · simp only [Value.slice.injEq] at hv
    obtain ⟨rfl, -, rfl⟩ := hv
    have hget : ∀ i, i < 4 → (tcells toks)[k * 4 + i]? = t.cells[i]? := fun i hi => by
      obtain ⟨l1, l2, hl, hlen⟩ : ∃ l1 l2, toks = l1 ++ t :: l2 ∧ l1.length = k := ⟨toks.take k, toks.drop (k + 1), by rw [← (List.getElem?_eq_some_iff.1 hk).2, ← List.drop_eq_getElem_cons hlt, List.take_append_drop], by simp; omega⟩
      rw [hl, tcells, List.flatMap_append, List.flatMap_cons, List.getElem?_append_right (by have := tcells_len l1; unfold tcells at this; omega)]
      have := tcells_len l1
      unfold tcells at this
      rw [this, show k * 4 + i - l1.length * 4 = i by omega, List.getElem?_append_left (by simp [Tk.cells]; omega)]
    refine ⟨g, rfl, ?_, ?_, ?_, ?_⟩
    · rw [h2.cellAt (k * 4) (by omega)]; exact hget 0 (by decide)
    · rw [h2.cellAt (k * 4 + 1) (by omega)]; exact hget 1 (by decide)
    · rw [h2.cellAt (k * 4 + 2) (by omega)]; exact hget 2 (by decide)
    · rw [h2.cellAt (k * 4 + 3) (by omega)]; exact hget 3 (by decide)
/-- One token on. -/
theorem Prs.setPos {B pb : Nat} {toks : List Tk} {st : Ps} {w : World} {tv : Value} (h : Prs B pb toks st w tv) (p : Nat) :
    Prs B pb toks ⟨p, st.tree⟩ (w.setCell ⟨pb, 1, none⟩ (.int .i64 p)) tv ∧ Mv pb w tv (w.setCell ⟨pb, 1, none⟩ (.int .i64 p)) tv := by
  obtain ⟨tov, h1, h2⟩ := h.blk
  obtain ⟨kvs, h3, h4, h5⟩ := h.row
  have hoth : ∀ k, k ≠ pb → (w.setCell ⟨pb, 1, none⟩ (.int .i64 p)).heap[k]? = w.heap[k]? := fun k hk => Below.heap_setCell _ _ _ _ (by simpa using hk)
  have key : ∀ {e size n : Nat} {v : Value} {xs : List Value}, e ≠ 47 → w.ownsRow B e size v n xs → (w.setCell ⟨pb, 1, none⟩ (.int .i64 p)).ownsRow B e size v n xs := fun he hr => row_of_block hr fun g hg => hoth g (fun e' => by
    obtain ⟨_, _, cur, hh⟩ := row_block hr hg
    subst e'
    rw [hh] at h1
    simp at h1
    exact he h1.2)
  refine ⟨⟨h.low, ⟨tov, ?_, key (by decide) h2⟩, ⟨kvs, h3, key (by decide) h4, fun i n kv hn hk => key (by decide) (h5 i n kv hn hk)⟩⟩, ⟨rfl, rfl, rfl, by simp [World.setCell], fun k _ hk _ => hoth k hk, .inl rfl, fun g _ _ hn b n c k kv e hk hc => ?_⟩⟩
  · simp [World.setCell, Array.getElem?_modify, h1]
  · subst e
    have hbp : b ≠ pb := fun e' => by
      obtain ⟨_, _, cur, hh⟩ := h.tv_own (g := b) rfl
      subst e'
      rw [h1] at hh
      simp at hh
    rw [World.cell?_of_block (a := ⟨b, k * 5 + 4, none⟩) (hoth b hbp)] at hc
    exact hn b n c k kv rfl hk hc
/-- How a step of the parser comes out: with a value, or it gives up. -/
def PP {α : Type} (B pb : Nat) (toks : List Tk) (w : World) (tv : Value) (ret : α → Value) : Option (α × Ps) → Ending → World → Prop
  | none, e, w' => e = Gave 6 0 0 ∧ ∃ tv', Mv pb w tv w' tv'
  | some (a, st), e, w' => e = .returned (ret a) ∧ ∃ tv', Prs B pb toks st w' tv' ∧ Mv pb w tv w' tv'
/-- The token at a place: its kind and its text. -/
def pkK (toks : List Tk) (k : Nat) : Int := match toks[k]? with | some t => t.kind | none => 0
def pkT (toks : List Tk) (k : Nat) : ByteArray := match toks[k]? with | some t => t.text | none => ⟨#[]⟩
end Go.Proofs.YtpdndpajobfhmabGreatDoor
