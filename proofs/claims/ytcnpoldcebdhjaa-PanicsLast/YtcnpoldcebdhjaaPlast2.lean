/- What the law keeps on its way, in memory. -/
import Derived.Test.YtcnpoldcebdhjaaPlast
namespace Go.Proofs.Ytcnpoldcebdhjaa
open Go.ChangeShapes Go.WideShapes Go.ChangeAt Go.RowKit
set_option maxRecDepth 100000
set_option linter.unusedSimpArgs false
set_option linter.unusedVariables false
theorem Try.infoIs : (Try.prog.info? 30).map (fun i => (i.zero, i.size, i.bytes)) = some (some (.slice none 0 0), 1, 24) := by kernel_rfl
/-- A list and where it lies. -/
structure Ke where
  l : List Int
  L : Value
def Ke.cells (e : Ke) : List Value := [e.L]
theorem Ke.len (e : Ke) : e.cells.length = 1 := rfl
theorem Ke.one {e : Ke} {lo : Option Addr} {ln lc : Nat} (h : e.L = .slice lo ln lc) : ∀ u ∈ e.cells, u.oneCell' = true := by
  intro u hu
  simp [Ke.cells, h] at hu
  subst hu; rfl
def kTwo (a b : Value) : Prop := a.ownBlock = none ∨ a.ownBlock ≠ b.ownBlock
theorem kTwo.symm {a b : Value} (h : kTwo a b) : kTwo b a := by
  unfold kTwo at h ⊢
  cases hb : b.ownBlock with
  | none => exact .inl rfl
  | some q =>
    right
    rcases h with h | h
    · rw [h]; simp
    · rw [hb] at h; exact fun e => h e.symm
theorem kTwo.free {a b : Value} (h : b.ownBlock = none) : kTwo a b := kTwo.symm (.inl h)
theorem kTwo.same {a b b' : Value} (h : kTwo a b) (hb : b'.ownBlock = b.ownBlock) : kTwo a b' := by unfold kTwo at h ⊢; rw [hb]; exact h
structure KM (B : Nat) (w : World) (Kv Sv : Value) (kes : List Ke) (S : List Int) : Prop where
  row : w.ownsRow B 30 1 Kv kes.length (rc Ke.cells kes)
  own : ∀ e ∈ kes, IOwn B w e.L e.l
  apart : kes.Pairwise (fun a b => kTwo a.L b.L)
  st : IOwn B w Sv S
  apS : ∀ e ∈ kes, kTwo e.L Sv
/-- The same, but for what lies in one list. -/
structure KD (B : Nat) (w : World) (Kv Sv : Value) (xs : List Ke) (e : Ke) (ys : List Ke) (S : List Int) : Prop where
  row : w.ownsRow B 30 1 Kv (xs ++ e :: ys).length (rc Ke.cells (xs ++ e :: ys))
  own : ∀ a ∈ xs ++ ys, IOwn B w a.L a.l
  apart : (xs ++ ys).Pairwise (fun a b => kTwo a.L b.L)
  st : IOwn B w Sv S
  apS : ∀ a ∈ xs ++ ys, kTwo a.L Sv
section
variable {B : Nat} {w w' : World} {Kv Sv : Value} {kes xs ys : List Ke} {e : Ke} {S : List Int}
theorem KM.below (h : KM B w Kv Sv kes S) (hb : Below w.heap.size w w') : KM B w' Kv Sv kes S :=
  ⟨row_below h.row hb, fun e he => row_below (h.own e he) hb, h.apart, row_below h.st hb, h.apS⟩
theorem KD.below (h : KD B w Kv Sv xs e ys S) (hb : Below w.heap.size w w') : KD B w' Kv Sv xs e ys S :=
  ⟨row_below h.row hb, fun e he => row_below (h.own e he) hb, h.apart, row_below h.st hb, h.apS⟩
theorem KM.others (h : KM B w Kv Sv (xs ++ e :: ys) S) : ∀ a ∈ xs ++ ys, kTwo a.L e.L := fun a ha => by
  have hp := List.pairwise_append.1 h.apart
  rcases List.mem_append.1 ha with h1 | h1
  · exact hp.2.2 a h1 e (by simp)
  · exact ((List.pairwise_cons.1 hp.2.1).1 a h1).symm
theorem KM.rest (h : KM B w Kv Sv (xs ++ e :: ys) S) : (xs ++ ys).Pairwise (fun a b => kTwo a.L b.L) := by
  have hp := List.pairwise_append.1 h.apart
  exact List.pairwise_append.2 ⟨hp.1, (List.pairwise_cons.1 hp.2.1).2, fun a ha b hb => hp.2.2 a ha b (by simp [hb])⟩
theorem KM.toD (h : KM B w Kv Sv (xs ++ e :: ys) S) : KD B w Kv Sv xs e ys S :=
  ⟨h.row, fun a ha => h.own a (by rcases List.mem_append.1 ha with h1 | h1 <;> simp [h1]), h.rest, h.st, fun a ha => h.apS a (by rcases List.mem_append.1 ha with h1 | h1 <;> simp [h1])⟩
theorem typ {v : Value} {n t : Nat} {cs : List Value} {B s : Nat} (h : w.ownsRow B t s v n cs) : ∀ g, v.ownBlock = some g → ∃ cs z, w.heap[g]? = some (.cells cs t z) := fun g hg => by obtain ⟨cs, h2⟩ := row_typed h g hg; exact ⟨_, _, h2⟩
theorem KM.grownD (h : KM B w Kv Sv (xs ++ e :: ys) S) (hg : w.grownBy w' e.L.ownBlock) : KD B w' Kv Sv xs e ys S := by
  have hL : IOwn B w e.L e.l := h.own e (by simp)
  refine ⟨row_grown h.row hg (typ hL) (by decide), fun a ha => World.ownsRow.kept (h.own a (by rcases List.mem_append.1 ha with h1 | h1 <;> simp [h1])) hg (h.others a ha), h.rest, World.ownsRow.kept h.st hg (h.apS e (by simp)).symm, fun a ha => h.apS a (by rcases List.mem_append.1 ha with h1 | h1 <;> simp [h1])⟩
/-- One list more, an empty one. -/
theorem KM.addK {Kv' : Value} (h : KM B w Kv Sv kes S) (hg : w.grownBy w' Kv.ownBlock) (hr : w'.ownsRow B 30 1 Kv' (kes ++ [Ke.mk [] (.slice none 0 0)]).length (rc Ke.cells (kes ++ [Ke.mk [] (.slice none 0 0)]))) : KM B w' Kv' Sv (kes ++ [Ke.mk [] (.slice none 0 0)]) S := by
  refine ⟨hr, fun a ha => ?_, ?_, row_grown h.st hg (typ h.row) (by decide), fun a ha => ?_⟩
  · rcases List.mem_append.1 ha with h1 | h1
    · exact row_grown (h.own a h1) hg (typ h.row) (by decide)
    · simp at h1; subst h1; exact IOwn.nil _ _
  · rw [List.pairwise_append]
    refine ⟨h.apart, List.pairwise_singleton _ _, fun a ha b hb => ?_⟩
    simp at hb; subst hb
    exact kTwo.free rfl
  · rcases List.mem_append.1 ha with h1 | h1
    · exact h.apS a h1
    · simp at h1; subst h1; exact .inl rfl
theorem fresh {v v' : Value} {l : List Int} {a : Ke} (ha : IOwn B w a.L a.l) (hat : v'.ownBlock = v.ownBlock ∨ v'.ownBlock = some w.heap.size) (h : kTwo a.L v) : kTwo a.L v' := by
  rcases hat with h1 | h1
  · exact h.same h1
  · unfold kTwo
    cases hb : a.L.ownBlock with
    | none => exact .inl rfl
    | some b => exact .inr (fun e2 => by rw [h1] at e2; have := (World.ownsRow.lt ha b hb).2; cases e2; omega)
/-- One activation more. -/
theorem KM.addS {Sv' : Value} {x : Int} (h : KM B w Kv Sv kes S) (hg : w.grownBy w' Sv.ownBlock) (hr : IOwn B w' Sv' (S ++ [x])) (hat : Sv'.ownBlock = Sv.ownBlock ∨ Sv'.ownBlock = some w.heap.size) : KM B w' Kv Sv' kes (S ++ [x]) :=
  ⟨row_grown h.row hg (typ h.st) (by decide), fun a ha => World.ownsRow.kept (h.own a ha) hg (h.apS a ha), h.apart, hr, fun a ha => fresh (l := a.l) (h.own a ha) hat (h.apS a ha)⟩
/-- One activation less. -/
theorem KM.popS {g n cap : Nat} {x : Int} (h : KM B w Kv (.slice (some ⟨g, 0, none⟩) n cap) kes (S ++ [x])) : KM B w Kv (.slice (some ⟨g, 0, none⟩) S.length cap) kes S :=
  ⟨h.row, h.own, h.apart, h.st.pop, h.apS⟩
theorem KM.at (h : KM B w Kv Sv (xs ++ e :: ys) S) : ∃ g cap, Kv = .slice (some ⟨g, 0, none⟩) (xs ++ e :: ys).length cap ∧ B ≤ g ∧ g < w.heap.size ∧ w.cell? ⟨g, xs.length, none⟩ = some e.L ∧ w.frozen? ⟨g, xs.length, none⟩ = false := by
  have hk : (xs ++ e :: ys)[xs.length]? = some e := by rw [List.getElem?_append_right (Nat.le_refl _)]; simp
  obtain ⟨g, cap, hv, hB, hg, hc, hz, -⟩ := own_at Ke.len h.row hk
  exact ⟨g, cap, hv, hB, hg, by have := hc 0 _ rfl; simpa using this, hz _⟩
theorem KD.at (h : KD B w Kv Sv xs e ys S) : ∃ g cap, Kv = .slice (some ⟨g, 0, none⟩) (xs ++ e :: ys).length cap ∧ B ≤ g ∧ g < w.heap.size ∧ w.cell? ⟨g, xs.length, none⟩ = some e.L ∧ w.frozen? ⟨g, xs.length, none⟩ = false ∧ ∃ cur, w.heap[g]? = some (.cells cur 30 (0, 0)) := by
  have hk : (xs ++ e :: ys)[xs.length]? = some e := by rw [List.getElem?_append_right (Nat.le_refl _)]; simp
  obtain ⟨g, cap, hv, hB, hg, hc, hz, hcur⟩ := own_at Ke.len h.row hk
  exact ⟨g, cap, hv, hB, hg, by have := hc 0 _ rfl; simpa using this, hz _, hcur⟩
/-- A list is put in its place. -/
theorem KD.put {g n cap : Nat} {L' : Value} {l' : List Int} (h : KD B w (.slice (some ⟨g, 0, none⟩) n cap) Sv xs e ys S) (hL : IOwn B w L' l') (ho : ∀ a ∈ xs ++ ys, kTwo a.L L') (hs : kTwo L' Sv) :
    KM B (w.setCell ⟨g, xs.length, none⟩ L') (.slice (some ⟨g, 0, none⟩) n cap) Sv (xs ++ ⟨l', L'⟩ :: ys) S ∧ Below B w (w.setCell ⟨g, xs.length, none⟩ L') := by
  have hk : (xs ++ e :: ys)[xs.length]? = some e := by rw [List.getElem?_append_right (Nat.le_refl _)]; simp
  obtain ⟨g', cap', hv, hB, -, -, -, cur, hcur⟩ := own_at Ke.len h.row hk
  cases hv
  have hoth : ∀ b, b ≠ g → b < w.heap.size → (w.setCell ⟨g, xs.length, none⟩ L').heap[b]? = w.heap[b]? := fun b hb _ => heap_setCell_other _ _ _ _ (by simpa using hb)
  refine ⟨⟨?_, fun a ha => ?_, ?_, row_far h.st hcur (by decide) hoth, fun a ha => ?_⟩, (Below.refl _ _).setCell hB L'⟩
  · have h3 := own_set Ke.len h.row (u := L') (i := 0) (e' := ⟨l', L'⟩) hk (by decide) rfl
    rw [List.set_append_right _ _ (Nat.le_refl _), Nat.sub_self, List.set_cons_zero, Nat.mul_one, Nat.add_zero] at h3
    simp only [List.length_append, List.length_cons] at h3 ⊢
    exact h3
  · rcases List.mem_append.1 ha with h1 | h1
    · exact row_far (h.own a (List.mem_append_left _ h1)) hcur (by decide) hoth
    · rcases List.mem_cons.1 h1 with rfl | h1
      · exact row_far hL hcur (by decide) hoth
      · exact row_far (h.own a (List.mem_append_right _ h1)) hcur (by decide) hoth
  · have hp := List.pairwise_append.1 h.apart
    refine List.pairwise_append.2 ⟨hp.1, List.pairwise_cons.2 ⟨fun b hb => (ho b (List.mem_append_right _ hb)).symm, hp.2.1⟩, fun a ha b hb => ?_⟩
    rcases List.mem_cons.1 hb with rfl | hb
    · exact ho a (List.mem_append_left _ ha)
    · exact hp.2.2 a ha b hb
  · rcases List.mem_append.1 ha with h1 | h1
    · exact h.apS a (List.mem_append_left _ h1)
    · rcases List.mem_cons.1 h1 with rfl | h1
      · exact hs
      · exact h.apS a (List.mem_append_right _ h1)
/-- The last of a list is gone. -/
theorem KM.popK {g n cap : Nat} {go : Option Addr} {gn gc : Nat} {l : List Int} {x : Int} (h : KM B w (.slice (some ⟨g, 0, none⟩) n cap) Sv (xs ++ ⟨l ++ [x], .slice go gn gc⟩ :: ys) S) :
    KM B (w.setCell ⟨g, xs.length, none⟩ (.slice go l.length gc)) (.slice (some ⟨g, 0, none⟩) n cap) Sv (xs ++ ⟨l, .slice go l.length gc⟩ :: ys) S ∧ Below B w (w.setCell ⟨g, xs.length, none⟩ (.slice go l.length gc)) := by
  have hL : IOwn B w (.slice go gn gc) (l ++ [x]) := h.own ⟨l ++ [x], .slice go gn gc⟩ (by simp)
  have hgo : ∃ b, go = some ⟨b, 0, none⟩ := by
    rcases hL.2 with ⟨_, h0⟩ | ⟨g', cap', cur, hv, _⟩
    · simp at h0
    · cases hv; exact ⟨_, rfl⟩
  obtain ⟨b, rfl⟩ := hgo
  exact h.toD.put hL.pop (fun a ha => (h.others a ha).same rfl) ((h.apS ⟨l ++ [x], .slice (some ⟨b, 0, none⟩) gn gc⟩ (by simp)))
theorem split_at {k : Nat} (h : kes[k]? = some e) : ∃ xs ys, kes = xs ++ e :: ys ∧ xs.length = k := by
  have hk := (List.getElem?_eq_some_iff.1 h).1
  exact ⟨kes.take k, kes.drop (k + 1), by rw [← (List.getElem?_eq_some_iff.1 h).2, ← List.drop_eq_getElem_cons hk, List.take_append_drop], by simp; omega⟩
theorem set_at {l : List Int} : (xs ++ e :: ys).map (·.l) = (xs ++ e :: ys).map (·.l) → ((xs ++ e :: ys).map (·.l)).set xs.length l = (xs ++ ⟨l, e.L⟩ :: ys).map (·.l) := fun _ => by
  rw [List.map_append, List.set_append_right _ _ (by simp)]
  simp
theorem KM.len (h : KM B w Kv Sv kes S) : ∃ ko kc so sc, Kv = .slice ko kes.length kc ∧ Sv = .slice so S.length sc := by
  obtain ⟨ko, kc, h1⟩ := row_slice h.row
  obtain ⟨so, sc, h2⟩ := IOwn.shape h.st
  exact ⟨ko, kc, so, sc, h1, h2⟩
/-- The last activation. -/
theorem KM.last {x : Int} (h : KM B w Kv Sv kes (S ++ [x])) : ∃ g cap, Sv = .slice (some ⟨g, 0, none⟩) (S.length + 1) cap ∧ w.cell? ⟨g, S.length, none⟩ = some (.int .i64 x) := by
  rcases h.st.2 with ⟨_, h0⟩ | ⟨g, cap, cur, hv, _⟩
  · simp at h0
  · refine ⟨g, cap, by rw [hv]; simp, ?_⟩
    have h1 := h.st
    subst hv
    have := World.ownsRow.cellAt h1 S.length (by simp)
    rw [this]; simp
end
theorem KM.len2 {B : Nat} {w : World} {Kv Sv : Value} {kes : List Ke} {S : List Int} (h : KM B w Kv Sv kes S) : ∃ ko kn kc so sn sc, Kv = .slice ko kn kc ∧ Sv = .slice so sn sc ∧ kn = kes.length ∧ sn = S.length := by
  obtain ⟨ko, kc, so, sc, h1, h2⟩ := h.len
  exact ⟨ko, _, kc, so, _, sc, h1, h2, rfl, rfl⟩
/-- What the law keeps, and the tell that it looks at. -/
structure KB (B b : Nat) (cs : Array Value) (w : World) (Kv Sv : Value) (kes : List Ke) (S : List Int) : Prop where
  km : KM B w Kv Sv kes S
  box : w.heap[b]? = some (.cells cs 58 (0, 0))
  lo : B ≤ w.heap.size
theorem KB.below {B b : Nat} {cs : Array Value} {w w' : World} {Kv Sv : Value} {kes : List Ke} {S : List Int} (h : KB B b cs w Kv Sv kes S) (hb : Below w.heap.size w w') : KB B b cs w' Kv Sv kes S :=
  ⟨h.km.below hb, by rw [hb.block b (Array.getElem?_eq_some_iff.1 h.box).1]; exact h.box, Nat.le_trans h.lo hb.size⟩
theorem KB.start {B : Nat} {w : World} {Kv Sv : Value} {kes : List Ke} {S : List Int} (h : KM B w Kv Sv kes S) (hB : B ≤ w.heap.size) (cs : Array Value) : KB B w.heap.size cs (w.alloc (.cells cs 58)) Kv Sv kes S :=
  ⟨h.below ((Below.refl _ _).alloc (Nat.le_refl _) _), box_stays (Below.refl _ _), by simp; omega⟩
theorem KB.litK {B b : Nat} {cs : Array Value} {w : World} {Kv Sv : Value} {kes : List Ke} {S : List Int} (h : KB B b cs w Kv Sv kes S) :
    KB B b cs (w.alloc (.cells #[.slice none 0 0] 30)) Kv Sv kes S ∧ (w.alloc (.cells #[.slice none 0 0] 30)).ownsRow B 30 1 (.slice (some ⟨w.heap.size, 0, none⟩) 1 1) 1 (Ke.cells ⟨[], .slice none 0 0⟩) ∧ Below w.heap.size w (w.alloc (.cells #[.slice none 0 0] 30)) :=
  ⟨h.below ((Below.refl _ _).alloc (Nat.le_refl _) _), World.ownsRow_lit (base := B) (e := 30) (size := 1) w #[.slice none 0 0] 1 h.lo (by decide) rfl, (Below.refl _ _).alloc (Nat.le_refl _) _⟩
theorem KB.litS {B b : Nat} {cs : Array Value} {w : World} {Kv Sv : Value} {kes : List Ke} {S : List Int} (x : Int) (h : KB B b cs w Kv Sv kes S) :
    KB B b cs (w.alloc (.cells #[.int .i64 x] 3)) Kv Sv kes S ∧ (w.alloc (.cells #[.int .i64 x] 3)).ownsRow B 3 1 (.slice (some ⟨w.heap.size, 0, none⟩) 1 1) 1 [.int .i64 x] ∧ Below w.heap.size w (w.alloc (.cells #[.int .i64 x] 3)) :=
  ⟨h.below ((Below.refl _ _).alloc (Nat.le_refl _) _), World.ownsRow_lit (base := B) (e := 3) (size := 1) w #[.int .i64 x] 1 h.lo (by decide) rfl, (Below.refl _ _).alloc (Nat.le_refl _) _⟩
theorem KB.popK {B b g n cap : Nat} {cs : Array Value} {w : World} {Sv : Value} {xs ys : List Ke} {go : Option Addr} {gn gc : Nat} {l S : List Int} {x : Int} (h : KB B b cs w (.slice (some ⟨g, 0, none⟩) n cap) Sv (xs ++ ⟨l ++ [x], .slice go gn gc⟩ :: ys) S) :
    KB B b cs (w.setCell ⟨g, xs.length, none⟩ (.slice go l.length gc)) (.slice (some ⟨g, 0, none⟩) n cap) Sv (xs ++ ⟨l, .slice go l.length gc⟩ :: ys) S ∧ Below B w (w.setCell ⟨g, xs.length, none⟩ (.slice go l.length gc)) := by
  obtain ⟨h1, h2⟩ := h.km.popK
  obtain ⟨cur, z, hcur⟩ := typ h.km.row g rfl
  refine ⟨⟨h1, ?_, Nat.le_trans h.lo h2.size⟩, h2⟩
  rw [heap_setCell_other _ _ _ _ (by show b ≠ g; intro e; subst e; have hb := h.box; rw [hcur] at hb; simp at hb)]
  exact h.box
theorem box_of {w w' : World} {b t : Nat} {cs : Array Value} {row : Option Nat} (hg : w.grownBy w' row) (hb : w.heap[b]? = some (.cells cs 58 (0, 0))) (ht : ∀ g, row = some g → ∃ cs z, w.heap[g]? = some (.cells cs t z)) (hne : t ≠ 58) : w'.heap[b]? = some (.cells cs 58 (0, 0)) := by
  rw [hg.block b (Array.getElem?_eq_some_iff.1 hb).1 (fun e => by obtain ⟨cs2, z2, h2⟩ := ht b e.symm; rw [hb] at h2; simp at h2; exact hne h2.2.1.symm)]
  exact hb
theorem KB.addK {B b : Nat} {cs : Array Value} {w w' : World} {Kv Kv' Sv : Value} {kes : List Ke} {S : List Int} (h : KB B b cs w Kv Sv kes S) (hg : w.grownBy w' Kv.ownBlock) (hr : w'.ownsRow B 30 1 Kv' (kes ++ [Ke.mk [] (.slice none 0 0)]).length (rc Ke.cells (kes ++ [Ke.mk [] (.slice none 0 0)]))) (hb : Below B w w') :
    KB B b cs w' Kv' Sv (kes ++ [Ke.mk [] (.slice none 0 0)]) S := ⟨h.km.addK hg hr, box_of hg h.box (typ h.km.row) (by decide), Nat.le_trans h.lo hb.size⟩
theorem KB.addS {B b : Nat} {cs : Array Value} {w w' : World} {Kv Sv Sv' : Value} {kes : List Ke} {S : List Int} {x : Int} (h : KB B b cs w Kv Sv kes S) (hg : w.grownBy w' Sv.ownBlock) (hr : IOwn B w' Sv' (S ++ [x])) (hat : Sv'.ownBlock = Sv.ownBlock ∨ Sv'.ownBlock = some w.heap.size) (hb : Below B w w') :
    KB B b cs w' Kv Sv' kes (S ++ [x]) := ⟨h.km.addS hg hr hat, box_of hg h.box (typ h.km.st) (by decide), Nat.le_trans h.lo hb.size⟩
def isI4 (B : Nat) (l : List Int) (os : List Ke) (Sv : Value) : Value → World → Prop := fun v w => IOwn B w v l ∧ (∀ a ∈ os, kTwo a.L v) ∧ kTwo v Sv
theorem stab_i4 (B : Nat) (l : List Int) (os : List Ke) (Sv : Value) : Stab (isI4 B l os Sv) := fun v w w' hb h => ⟨row_below h.1 hb, h.2⟩
theorem km_start (w : World) : KM w.heap.size ((w.alloc (.cells #[.slice none 0 0] 30)).alloc (.cells #[.int .i64 0] 3)) (.slice (some ⟨w.heap.size, 0, none⟩) 1 1) (.slice (some ⟨w.heap.size + 1, 0, none⟩) 1 1) [⟨[], .slice none 0 0⟩] [0] ∧ Below w.heap.size w ((w.alloc (.cells #[.slice none 0 0] 30)).alloc (.cells #[.int .i64 0] 3)) := by
  have hb1 : Below w.heap.size w (w.alloc (.cells #[.slice none 0 0] 30)) := (Below.refl _ _).alloc (Nat.le_refl _) _
  have hb2 : Below (w.alloc (.cells #[.slice none 0 0] 30)).heap.size (w.alloc (.cells #[.slice none 0 0] 30)) ((w.alloc (.cells #[.slice none 0 0] 30)).alloc (.cells #[.int .i64 0] 3)) := (Below.refl _ _).alloc (Nat.le_refl _) _
  have h1 := World.ownsRow_lit (base := w.heap.size) (e := 30) (size := 1) w #[.slice none 0 0] 1 (Nat.le_refl _) (by decide) rfl
  have h2 := World.ownsRow_lit (base := w.heap.size) (e := 3) (size := 1) (w.alloc (.cells #[.slice none 0 0] 30)) #[.int .i64 0] 1 (by simp) (by decide) rfl
  rw [show (w.alloc (.cells #[.slice none 0 0] 30)).heap.size = w.heap.size + 1 by simp] at h2
  refine ⟨⟨row_below h1 hb2, fun e he => ?_, List.pairwise_singleton _ _, h2, fun e he => ?_⟩, hb1.trans (hb2.mono hb1.size)⟩
  · simp at he; subst he; exact IOwn.nil _ _
  · simp at he; subst he; exact .inl rfl
theorem iappL {o : Oper} {ops : Array Oper} {rest : List Oper} {a : Act} {Q : Exit → Act → World → Prop} {u : World} {B : Nat} {v v2 : Value} {l : List Int} {x : Int} (hgd : o.guard = none) (sl y : Operand)
    (ho : o.op = .call { callee := .builtin .append, args := #[sl, y], argTypes := #[30, 30] }) (hv : a.eval sl = v) (hx : a.eval y = v2) (h : IOwn B u v l) (h2 : u.ownsRow B 3 1 v2 1 [.int .i64 x]) (hB : B ≤ u.heap.size) (hz : l.length ≤ 1000000)
    (k : ∀ v' u', IOwn B u' v' (l ++ [x]) → u.grownBy u' v.ownBlock → (v'.ownBlock = v.ownBlock ∨ v'.ownBlock = some u.heap.size) → Below B u u' → wpList Try.prog ops Q rest (a.put o.dst v') u') : wpList Try.prog ops Q (o :: rest) a u :=
  wpList_plain hgd fun _ hK => iapp sl y ho hv hx h h2 hB hz fun v' u' h3 h4 h5 h6 => hK _ _ (k v' u' h3 h4 h5 h6)
end Go.Proofs.Ytcnpoldcebdhjaa
