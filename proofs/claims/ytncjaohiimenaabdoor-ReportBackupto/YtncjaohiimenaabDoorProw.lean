/- Rows of one's own, whatever their entries. -/
import Derived.Test.YtncjaohiimenaabDoorVown
import Derived.WalkSmall
import Derived.Maps.AppendAt
namespace Go.Proofs.YtncjaohiimenaabDoor
open Go.ChangeShapes Go.WideShapes Go.ChangeAt Go.RowKit
set_option maxRecDepth 100000
set_option linter.unusedSimpArgs false
set_option linter.unusedVariables false
section rows
variable {α : Type} {s : Nat} {c : α → List Value}
/-- The cells of a list's entries, one behind the other. -/
def rc (c : α → List Value) (l : List α) : List Value := l.flatMap c
theorem rc_app (l m : List α) : rc c (l ++ m) = rc c l ++ rc c m := by simp [rc]
theorem rc_one (x : α) : rc c [x] = c x := by simp [rc]
theorem rc_len (hs : ∀ x, (c x).length = s) : ∀ l : List α, (rc c l).length = l.length * s
  | [] => by simp [rc]
  | x :: r => by
    have := rc_len hs r
    simp only [rc, List.flatMap_cons, List.length_append, List.length_cons, hs] at this ⊢
    rw [this, Nat.succ_mul, Nat.add_comm]
theorem rc_get (hs : ∀ x, (c x).length = s) : ∀ (l : List α) (k i : Nat) (t : α), i < s → l[k]? = some t → (rc c l)[k * s + i]? = (c t)[i]?
  | [], k, i, t, _, h => by simp at h
  | x :: r, 0, i, t, hi, h => by
    simp at h
    subst h
    rw [rc, List.flatMap_cons, List.getElem?_append_left (by rw [hs]; omega)]
    simp
  | x :: r, k + 1, i, t, hi, h => by
    have := rc_get hs r k i t hi (by simpa using h)
    rw [rc, List.flatMap_cons, List.getElem?_append_right (by rw [hs, Nat.succ_mul]; omega), ← this, hs, show (k + 1) * s + i - s = k * s + i by rw [Nat.succ_mul]; omega]
    rfl
theorem rc_set (hs : ∀ x, (c x).length = s) (l : List α) (k i : Nat) (t t' : α) (u : Value) (hi : i < s) (hk : l[k]? = some t) (ht : c t' = (c t).set i u) : (rc c l).set (k * s + i) u = rc c (l.set k t') := by
  have hkl := (List.getElem?_eq_some_iff.1 hk).1
  apply List.ext_getElem?
  intro j
  have hs0 : 0 < s := by omega
  have hj : j = j / s * s + j % s := by rw [Nat.mul_comm]; exact (Nat.div_add_mod j s).symm
  have hjm := Nat.mod_lt j hs0
  by_cases hjl : j / s < l.length
  · obtain ⟨x, hx⟩ : ∃ x, l[j / s]? = some x := ⟨_, List.getElem?_eq_getElem hjl⟩
    by_cases hjk : j / s = k
    · have h1 : (l.set k t')[j / s]? = some t' := by rw [hjk]; exact List.getElem?_set_self hkl
      have h2 := rc_get hs _ _ (j % s) _ hjm h1
      rw [← hj] at h2
      rw [h2, ht]
      by_cases hji : j % s = i
      · have : j = k * s + i := by rw [hj, hjk, hji]
        rw [this, List.getElem?_set_self (by rw [rc_len hs]; have := Nat.mul_le_mul_right s (show k + 1 ≤ l.length by omega); rw [Nat.succ_mul] at this; omega)]
        rw [show (k * s + i) % s = i by rw [Nat.mul_comm, Nat.mul_add_mod]; exact Nat.mod_eq_of_lt hi, List.getElem?_set_self (by rw [hs]; exact hi)]
      · rw [List.getElem?_set_ne (by intro e; apply hji; rw [← e, Nat.mul_comm, Nat.mul_add_mod]; exact Nat.mod_eq_of_lt hi), List.getElem?_set_ne (Ne.symm hji)]
        have h3 := rc_get hs l _ (j % s) x hjm hx
        rw [← hj] at h3
        rw [hjk, hk] at hx
        cases hx
        exact h3
    · have h1 : (l.set k t')[j / s]? = some x := by rw [List.getElem?_set_ne (Ne.symm hjk)]; exact hx
      have h2 := rc_get hs _ _ (j % s) _ hjm h1
      have h3 := rc_get hs l _ (j % s) x hjm hx
      rw [← hj] at h2 h3
      rw [h2, List.getElem?_set_ne, h3]
      intro e
      apply hjk
      rw [← e, Nat.mul_comm, Nat.mul_add_div hs0, Nat.div_eq_of_lt hi, Nat.add_zero]
  · have h2 : l.length * s ≤ j := by
      have := Nat.mul_le_mul_right s (show l.length ≤ j / s by omega)
      omega
    rw [List.getElem?_eq_none (by rw [List.length_set, rc_len hs]; exact h2), List.getElem?_eq_none (by rw [rc_len hs, List.length_set]; exact h2)]
/-- A list that lies in a row, whoever's it is. -/
def RLies (s : Nat) (c : α → List Value) (w : World) (v : Value) (l : List α) : Prop :=
  (v = .slice none 0 0 ∧ l = []) ∨ ∃ (a : Addr) (cap : Nat), v = .slice (some a) l.length cap ∧ l.length ≤ cap ∧ cap ≤ maxLen ∧ (l ≠ [] → a.spot = none) ∧ ∀ (k : Nat) e, l[k]? = some e → ∀ (j : Nat) u, (c e)[j]? = some u → w.cell? (a.add (k * s + j)) = some u
theorem RLies.shape {w : World} {v : Value} {l : List α} (h : RLies s c w v l) : ∃ ao cap, v = .slice ao l.length cap := by
  rcases h with ⟨h, rfl⟩ | ⟨a, cap, h, _⟩
  · exact ⟨none, 0, h⟩
  · exact ⟨_, _, h⟩
theorem RLies.below {w w' : World} {v : Value} {l : List α} {B : Nat} (h : RLies s c w v l) (hb : Below B w w') (hB : w.heap.size ≤ B) : RLies s c w' v l := by
  rcases h with h | ⟨a, cap, h1, h2, h2', h3, h4⟩
  · exact .inl h
  · refine .inr ⟨a, cap, h1, h2, h2', h3, fun k e hk j u hu => ?_⟩
    have h0 := h4 k e hk j u hu
    rw [hb.cell (Nat.lt_of_lt_of_le (World.block_lt_of_cell? _ _ h0) hB)]
    exact h0
theorem RLies.at {w : World} {v : Value} {l : List α} (h : RLies s c w v l) {k : Nat} {e : α} (hk : l[k]? = some e) : ∃ b off cap, v = .slice (some ⟨b, off, none⟩) l.length cap ∧ ∀ (j : Nat) u, (c e)[j]? = some u → w.cell? ⟨b, off + (k * s + j), none⟩ = some u := by
  rcases h with ⟨_, h⟩ | ⟨⟨b, off, spot⟩, cap, h1, h2, h2', h3, h4⟩
  · subst h; simp at hk
  · have := h3 (by rintro rfl; simp at hk)
    simp only at this
    subst this
    refine ⟨b, off, cap, h1, fun j u hu => ?_⟩
    have := h4 k e hk j u hu
    simpa [add_plain] using this
theorem RLies.take {w : World} {ao : Option Addr} {n cap m : Nat} {l : List α} (h : RLies s c w (.slice ao n cap) l) (hm : m ≤ l.length) : RLies s c w (.slice ao m cap) (l.take m) := by
  rcases h with ⟨h0, h1⟩ | ⟨a, cap', h1, h2, h2', h3, h4⟩
  · subst h1
    simp at h0
    obtain ⟨rfl, rfl, rfl⟩ := h0
    have : m = 0 := by simpa using hm
    subst this
    exact .inl ⟨rfl, rfl⟩
  · cases h1
    have hl : (l.take m).length = m := by simp; omega
    refine .inr ⟨a, cap, by rw [hl], by rw [hl]; omega, h2', fun hne => h3 (by rintro rfl; simp at hne), fun k e hk j u hu => ?_⟩
    refine h4 k e ?_ j u hu
    have hk2 : k < m := by have := (List.getElem?_eq_some_iff.1 hk).1; omega
    rwa [List.getElem?_take_of_lt hk2] at hk
theorem lies_own {B t : Nat} {w : World} {v : Value} {l : List α} (hs : ∀ x, (c x).length = s) (h : w.ownsRow B t s v l.length (rc c l)) : RLies s c w v l := by
  rcases h.2 with ⟨hv, h0⟩ | ⟨g, cap, cur, hv, -, -, hcap, hmax, -⟩
  · have : l = [] := List.eq_nil_of_length_eq_zero h0
    subst this
    exact .inl ⟨hv, rfl⟩
  · refine .inr ⟨⟨g, 0, none⟩, cap, hv, hcap, hmax, fun _ => rfl, fun k e hk j u hu => ?_⟩
    have hkl := (List.getElem?_eq_some_iff.1 hk).1
    have hj := (List.getElem?_eq_some_iff.1 hu).1
    rw [hs] at hj
    subst hv
    rw [add_plain, Nat.zero_add, h.cellAt (k * s + j) (by have := Nat.mul_le_mul_right s (show k + 1 ≤ l.length by omega); rw [Nat.succ_mul] at this; omega), rc_get hs l k j e hj hk]
    exact hu
/-- An entry of a row of one's own. -/
theorem own_at {B t : Nat} {w : World} {v : Value} {l : List α} (hs : ∀ x, (c x).length = s) (h : w.ownsRow B t s v l.length (rc c l)) {k : Nat} {e : α} (hk : l[k]? = some e) :
    ∃ g cap, v = .slice (some ⟨g, 0, none⟩) l.length cap ∧ B ≤ g ∧ g < w.heap.size ∧ (∀ (j : Nat) u, (c e)[j]? = some u → w.cell? ⟨g, k * s + j, none⟩ = some u) ∧ (∀ j, w.frozen? ⟨g, j, none⟩ = false) ∧ ∃ cur, w.heap[g]? = some (.cells cur t (0, 0)) := by
  have hkl := (List.getElem?_eq_some_iff.1 hk).1
  rcases h.2 with ⟨hv, h0⟩ | ⟨g, cap, cur, hv, hB, hg, hcap, hmax, -⟩
  · omega
  · subst hv
    refine ⟨g, cap, rfl, hB, (Array.getElem?_eq_some_iff.1 hg).1, fun j u hu => ?_, h.frozenAt, cur, hg⟩
    have hj := (List.getElem?_eq_some_iff.1 hu).1
    rw [hs] at hj
    rw [h.cellAt (k * s + j) (by have := Nat.mul_le_mul_right s (show k + 1 ≤ l.length by omega); rw [Nat.succ_mul] at this; omega), rc_get hs l k j e hj hk]
    exact hu
/-- A cell of an entry stored. -/
theorem own_set {B t : Nat} {w : World} {g n cap : Nat} {l : List α} (hs : ∀ x, (c x).length = s) (h : w.ownsRow B t s (.slice (some ⟨g, 0, none⟩) n cap) l.length (rc c l)) {k i : Nat} {e e' : α} {u : Value} (hk : l[k]? = some e) (hi : i < s) (he : c e' = (c e).set i u) :
    (w.setCell ⟨g, k * s + i, none⟩ u).ownsRow B t s (.slice (some ⟨g, 0, none⟩) n cap) l.length (rc c (l.set k e')) := by
  have hn : n = l.length := by
    rcases h.2 with ⟨h0, _⟩ | ⟨g', cap', cur, hv, _⟩
    · cases h0
    · cases hv; rfl
  subst hn
  have := (h.stored (k * s + i) u).1
  rwa [rc_set hs l k i e e' u hi hk he] at this
/-- Fewer of a row. -/
theorem own_pop {B t : Nat} {w : World} {g n cap : Nat} {l : List α} {x : α} (hs : ∀ x, (c x).length = s) (h : w.ownsRow B t s (.slice (some ⟨g, 0, none⟩) n cap) (l.length + 1) (rc c (l ++ [x]))) : w.ownsRow B t s (.slice (some ⟨g, 0, none⟩) l.length cap) l.length (rc c l) := by
  have hn : n = l.length + 1 := by
    rcases h.2 with ⟨h0, _⟩ | ⟨g', cap', cur, hv, _⟩
    · cases h0
    · cases hv; rfl
  subst hn
  rw [rc_app] at h
  exact ownsRow_pop (rc_len hs l) h
end rows
theorem row_at {w w' : World} {B e s n : Nat} {v : Value} {xs : List Value} (h : w.ownsRow B e s v n xs) (hk : ∀ g cs z, w.heap[g]? = some (.cells cs e z) → v.ownBlock = some g → w'.heap[g]? = w.heap[g]?) : w'.ownsRow B e s v n xs := by
  refine ⟨h.1, ?_⟩
  rcases h.2 with h0 | ⟨g, cap, cur, h1, h2, h3, h4⟩
  · exact .inl h0
  · exact .inr ⟨g, cap, cur, h1, h2, by rw [hk g _ _ h3 (by rw [h1]; rfl)]; exact h3, h4⟩
theorem row_below {w w' : World} {B e s n : Nat} {v : Value} {xs : List Value} (h : w.ownsRow B e s v n xs) (hb : Below w.heap.size w w') : w'.ownsRow B e s v n xs :=
  row_at h fun g cs z hg _ => hb.block g (Array.getElem?_eq_some_iff.1 hg).1
theorem row_up {w : World} {B B' e s n : Nat} {v : Value} {xs : List Value} (h : w.ownsRow B e s v n xs) (hB : B' ≤ B) : w.ownsRow B' e s v n xs := by
  refine ⟨h.1, ?_⟩
  rcases h.2 with h0 | ⟨g, cap, cur, h1, h2, h3⟩
  · exact .inl h0
  · exact .inr ⟨g, cap, cur, h1, Nat.le_trans hB h2, h3⟩
theorem row_typed {w : World} {B e s n : Nat} {v : Value} {xs : List Value} (h : w.ownsRow B e s v n xs) : ∀ g, v.ownBlock = some g → ∃ cs, w.heap[g]? = some (.cells cs e (0, 0)) := by
  intro g hg
  rcases h.2 with ⟨h1, _⟩ | ⟨g', cap, cur, h1, h2, h3, _⟩
  · rw [h1] at hg; cases hg
  · rw [h1] at hg
    simp [Value.ownBlock] at hg
    subst hg
    exact ⟨_, h3⟩

/-- A row of another type stays when one block is turned. -/
theorem row_far {w w' : World} {B e s n : Nat} {v : Value} {xs : List Value} {g t : Nat} {cs : Array Value} {z : Nat × Nat} (h : w.ownsRow B e s v n xs) (hg : w.heap[g]? = some (.cells cs t z)) (ht : e ≠ t) (ho : ∀ b, b ≠ g → b < w.heap.size → w'.heap[b]? = w.heap[b]?) : w'.ownsRow B e s v n xs :=
  row_at h fun b cs' z' hb _ => ho b (fun e' => by subst e'; rw [hg] at hb; simp at hb; exact ht hb.2.1.symm) (Array.getElem?_eq_some_iff.1 hb).1
theorem row_grown {w w' : World} {B e s n : Nat} {v : Value} {xs : List Value} {t : Nat} {row : Option Nat} (h : w.ownsRow B e s v n xs) (hg : w.grownBy w' row) (hr : ∀ g, row = some g → ∃ cs z, w.heap[g]? = some (.cells cs t z)) (ht : e ≠ t) : w'.ownsRow B e s v n xs :=
  row_at h fun b cs' z' hb _ => hg.block b (Array.getElem?_eq_some_iff.1 hb).1 fun e' => by
    obtain ⟨cs2, z2, h2⟩ := hr b e'.symm
    rw [hb] at h2; simp at h2; exact ht h2.2.1

section app
variable {α : Type} {s : Nat} {c : α → List Value}
/-- Append of one: at an operation. -/
theorem gapp {o : Oper} {a : Act} {K : Act → World → Prop} {Q : Exit → Act → World → Prop} {u : World} {B e t bytes : Nat} {z : Value} {v v2 : Value} {l : List α} {x : α} (sl y : Operand) (hs : ∀ x, (c x).length = s)
    (hinf : (Tryd.prog.info? e).map (fun i => (i.zero, i.size, i.bytes)) = some (some z, s, bytes)) (hzs : z.cells.size = s) (hs0 : 0 < s) (ht : Tryd.prog.underlying t = some (.slice e))
    (ho : o.op = .call { callee := .builtin .append, args := #[sl, y], argTypes := #[t, t] }) (hv : a.eval sl = v) (hx : a.eval y = v2) (h : u.ownsRow B e s v l.length (rc c l)) (h2 : u.ownsRow B e s v2 1 (c x)) (h1 : ∀ u ∈ c x, u.oneCell' = true) (hB : B ≤ u.heap.size) (hz : (l.length + 1) * bytes ≤ 140737488355328) (hb8 : 8 ≤ bytes)
    (k : ∀ v' u', u'.ownsRow B e s v' (l ++ [x]).length (rc c (l ++ [x])) → u.grownBy u' v.ownBlock → Below B u u' → K (a.put o.dst v') u') : o.wp Tryd.prog a u K Q := by
  obtain ⟨i0, hi, hz0, hz1, hz2⟩ := info_parts hinf
  rcases h2.2 with ⟨h0, h1⟩ | ⟨g, cap, cur, rfl, hg1, hg2, hcap, hmax, hcs, htk⟩
  · simp at h1
  · refine wp_append_own u sl y t ho B e i0 _ s bytes ht hi hz0 hz1 hz2 hzs hs0 v l.length (rc c l) hv h ⟨g, 0, none⟩ 1 cap (c x) hx (by rw [hs, Nat.one_mul]) (fun j w hj => ?_) h1 ?_ hz hB ?_
    · have hj3 := (List.getElem?_eq_some_iff.1 hj).1
      rw [add_plain, Nat.zero_add, h2.cellAt j (by rw [hs] at hj3; omega)]
      exact hj
    · have : (l.length + 1) * 8 ≤ (l.length + 1) * bytes := Nat.mul_le_mul_left _ hb8
      unfold maxLen; omega
    · intro v' u' hown hgrow hnil
      refine k v' u' ?_ hgrow ((Below.refl _ _).grown hgrow hB (fun q hq => (h.lt q hq).1))
      rw [List.length_append, List.length_singleton, rc_app, rc_one]
      exact hown
/-- The same, in a list of operations. -/
theorem gappL {o : Oper} {ops : Array Oper} {rest : List Oper} {a : Act} {Q : Exit → Act → World → Prop} {u : World} {B e t bytes : Nat} {z : Value} {v v2 : Value} {l : List α} {x : α} (hgd : o.guard = none) (sl y : Operand) (hs : ∀ x, (c x).length = s)
    (hinf : (Tryd.prog.info? e).map (fun i => (i.zero, i.size, i.bytes)) = some (some z, s, bytes)) (hzs : z.cells.size = s) (hs0 : 0 < s) (ht : Tryd.prog.underlying t = some (.slice e))
    (ho : o.op = .call { callee := .builtin .append, args := #[sl, y], argTypes := #[t, t] }) (hv : a.eval sl = v) (hx : a.eval y = v2) (h : u.ownsRow B e s v l.length (rc c l)) (h2 : u.ownsRow B e s v2 1 (c x)) (h1 : ∀ u ∈ c x, u.oneCell' = true) (hB : B ≤ u.heap.size) (hz : (l.length + 1) * bytes ≤ 140737488355328) (hb8 : 8 ≤ bytes)
    (k : ∀ v' u', u'.ownsRow B e s v' (l ++ [x]).length (rc c (l ++ [x])) → u.grownBy u' v.ownBlock → Below B u u' → wpList Tryd.prog ops Q rest (a.put o.dst v') u') : wpList Tryd.prog ops Q (o :: rest) a u :=
  wpList_plain hgd fun _ hK => gapp sl y hs hinf hzs hs0 ht ho hv hx h h2 h1 hB hz hb8 fun v' u' h3 h4 h5 => hK _ _ (k v' u' h3 h4 h5)
end app
end Go.Proofs.YtncjaohiimenaabDoor
