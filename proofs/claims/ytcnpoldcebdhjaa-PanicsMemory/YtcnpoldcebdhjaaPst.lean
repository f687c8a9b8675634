/- States of activations and panics: what they are, and where they lie. -/
import Derived.Test.YtcnpoldcebdhjaaRows
import Derived.WalkKit
import Derived.ProofKit
import Derived.OpenShut
import Derived.Handy
import Derived.SizedLaws
import Derived.Carry
import Derived.Deep.Slices
import Derived.Lib.SmallJoins
import Derived.Laws.AppendOwnNone
import Derived.Maps.AppendAt
import Derived.WalkSmall
namespace Go.Proofs.Ytcnpoldcebdhjaa
open Go.ChangeShapes Go.WideShapes Go.ChangeAt Go.RowKit
set_option maxRecDepth 100000
set_option linter.unusedSimpArgs false
set_option linter.unusedVariables false

theorem Try.cellsIntP : Try.prog.cellsOf 3 = 1 := by kernel_rfl
theorem Try.bytesIntP : Try.prog.bytesOf 3 = 8 := by kernel_rfl
theorem Try.cellsIntsP : Try.prog.cellsOf 30 = 1 := by kernel_rfl
theorem Try.infoIntP : (Try.prog.info? 3).map (fun i => (i.zero, i.size, i.bytes)) = some (some (.int .i64 0), 1, 8) := by kernel_rfl
theorem Try.infoFr : (Try.prog.info? 53).map (fun i => (i.zero, i.size, i.bytes)) = some (some (.agg #[.int .i64 0, .int .i64 0, .int .i64 0, .int .i64 0, .slice none 0 0]), 5, 56) := by kernel_rfl
theorem Try.infoPn : (Try.prog.info? 55).map (fun i => (i.zero, i.size, i.bytes)) = some (some (.agg #[.int .i64 0, .int .i64 0, .int .i64 0, .string ⟨#[]⟩, .slice none 0 0, .bool false, .bool false]), 7, 72) := by kernel_rfl
theorem Try.infoTl : (Try.prog.info? 58).map (fun i => (i.zero, i.size, i.bytes)) = some (some (.agg #[.int .i64 0, .int .i64 0, .int .i64 0, .int .i64 0, .int .i64 0, .string ⟨#[]⟩, .slice none 0 0]), 7, 80) := by kernel_rfl

section rows
variable {α : Type} {s : Nat} {c : α → List Value}
/-- The cells of a list's entries, one behind the other. -/
def rc (c : α → List Value) (l : List α) : List Value := l.flatMap c
theorem rc_app (l m : List α) : rc c (l ++ m) = rc c l ++ rc c m := by simp [rc]
theorem rc_one (x : α) : rc c [x] = c x := by simp [rc]
theorem rc_len (hs : ∀ x, (c x).length = s) : ∀ l : List α, (rc c l).length = l.length * s
  | [] => by simp [rc]
  | x :: r => by
    have := rc_len hs r
    simp only [rc, List.flatMap_cons, List.length_append, List.length_cons, hs] at this ⊢
    rw [this, Nat.succ_mul, Nat.add_comm]
theorem rc_get (hs : ∀ x, (c x).length = s) : ∀ (l : List α) (k i : Nat) (t : α), i < s → l[k]? = some t → (rc c l)[k * s + i]? = (c t)[i]?
  | [], k, i, t, _, h => by simp at h
  | x :: r, 0, i, t, hi, h => by
    simp at h
    subst h
    rw [rc, List.flatMap_cons, List.getElem?_append_left (by rw [hs]; omega)]
    simp
  | x :: r, k + 1, i, t, hi, h => by
    have := rc_get hs r k i t hi (by simpa using h)
    rw [rc, List.flatMap_cons, List.getElem?_append_right (by rw [hs, Nat.succ_mul]; omega), ← this, hs, show (k + 1) * s + i - s = k * s + i by rw [Nat.succ_mul]; omega]
    rfl
theorem rc_set (hs : ∀ x, (c x).length = s) (l : List α) (k i : Nat) (t t' : α) (u : Value) (hi : i < s) (hk : l[k]? = some t) (ht : c t' = (c t).set i u) : (rc c l).set (k * s + i) u = rc c (l.set k t') := by
  have hkl := (List.getElem?_eq_some_iff.1 hk).1
  apply List.ext_getElem?
  intro j
  have hs0 : 0 < s := by omega
  have hj : j = j / s * s + j % s := by rw [Nat.mul_comm]; exact (Nat.div_add_mod j s).symm
  have hjm := Nat.mod_lt j hs0
  by_cases hjl : j / s < l.length
  · obtain ⟨x, hx⟩ : ∃ x, l[j / s]? = some x := ⟨_, List.getElem?_eq_getElem hjl⟩
    by_cases hjk : j / s = k
    · have h1 : (l.set k t')[j / s]? = some t' := by rw [hjk]; exact List.getElem?_set_self hkl
      have h2 := rc_get hs _ _ (j % s) _ hjm h1
      rw [← hj] at h2
      rw [h2, ht]
      by_cases hji : j % s = i
      · have : j = k * s + i := by rw [hj, hjk, hji]
        rw [this, List.getElem?_set_self (by rw [rc_len hs]; have := Nat.mul_le_mul_right s (show k + 1 ≤ l.length by omega); rw [Nat.succ_mul] at this; omega)]
        rw [show (k * s + i) % s = i by rw [Nat.mul_comm, Nat.mul_add_mod]; exact Nat.mod_eq_of_lt hi, List.getElem?_set_self (by rw [hs]; exact hi)]
      · rw [List.getElem?_set_ne (by intro e; apply hji; rw [← e, Nat.mul_comm, Nat.mul_add_mod]; exact Nat.mod_eq_of_lt hi), List.getElem?_set_ne (Ne.symm hji)]
        have h3 := rc_get hs l _ (j % s) x hjm hx
        rw [← hj] at h3
        rw [hjk, hk] at hx
        cases hx
        exact h3
    · have h1 : (l.set k t')[j / s]? = some x := by rw [List.getElem?_set_ne (Ne.symm hjk)]; exact hx
      have h2 := rc_get hs _ _ (j % s) _ hjm h1
      have h3 := rc_get hs l _ (j % s) x hjm hx
      rw [← hj] at h2 h3
      rw [h2, List.getElem?_set_ne, h3]
      intro e
      apply hjk
      rw [← e, Nat.mul_comm, Nat.mul_add_div hs0, Nat.div_eq_of_lt hi, Nat.add_zero]
  · have h2 : l.length * s ≤ j := by
      have := Nat.mul_le_mul_right s (show l.length ≤ j / s by omega)
      omega
    rw [List.getElem?_eq_none (by rw [List.length_set, rc_len hs]; exact h2), List.getElem?_eq_none (by rw [rc_len hs, List.length_set]; exact h2)]
/-- A list that lies in a row, whoever's it is. -/
def RLies (s : Nat) (c : α → List Value) (w : World) (v : Value) (l : List α) : Prop :=
  (v = .slice none 0 0 ∧ l = []) ∨ ∃ (a : Addr) (cap : Nat), v = .slice (some a) l.length cap ∧ l.length ≤ cap ∧ cap ≤ maxLen ∧ (l ≠ [] → a.spot = none) ∧ ∀ (k : Nat) e, l[k]? = some e → ∀ (j : Nat) u, (c e)[j]? = some u → w.cell? (a.add (k * s + j)) = some u
theorem RLies.shape {w : World} {v : Value} {l : List α} (h : RLies s c w v l) : ∃ ao cap, v = .slice ao l.length cap := by
  rcases h with ⟨h, rfl⟩ | ⟨a, cap, h, _⟩
  · exact ⟨none, 0, h⟩
  · exact ⟨_, _, h⟩
theorem RLies.below {w w' : World} {v : Value} {l : List α} {B : Nat} (h : RLies s c w v l) (hb : Below B w w') (hB : w.heap.size ≤ B) : RLies s c w' v l := by
  rcases h with h | ⟨a, cap, h1, h2, h2', h3, h4⟩
  · exact .inl h
  · refine .inr ⟨a, cap, h1, h2, h2', h3, fun k e hk j u hu => ?_⟩
    have h0 := h4 k e hk j u hu
    rw [hb.cell (Nat.lt_of_lt_of_le (World.block_lt_of_cell? _ _ h0) hB)]
    exact h0
theorem RLies.at {w : World} {v : Value} {l : List α} (h : RLies s c w v l) {k : Nat} {e : α} (hk : l[k]? = some e) : ∃ b off cap, v = .slice (some ⟨b, off, none⟩) l.length cap ∧ ∀ (j : Nat) u, (c e)[j]? = some u → w.cell? ⟨b, off + (k * s + j), none⟩ = some u := by
  rcases h with ⟨_, h⟩ | ⟨⟨b, off, spot⟩, cap, h1, h2, h2', h3, h4⟩
  · subst h; simp at hk
  · have := h3 (by rintro rfl; simp at hk)
    simp only at this
    subst this
    refine ⟨b, off, cap, h1, fun j u hu => ?_⟩
    have := h4 k e hk j u hu
    simpa [add_plain] using this
theorem RLies.take {w : World} {ao : Option Addr} {n cap m : Nat} {l : List α} (h : RLies s c w (.slice ao n cap) l) (hm : m ≤ l.length) : RLies s c w (.slice ao m cap) (l.take m) := by
  rcases h with ⟨h0, h1⟩ | ⟨a, cap', h1, h2, h2', h3, h4⟩
  · subst h1
    simp at h0
    obtain ⟨rfl, rfl, rfl⟩ := h0
    have : m = 0 := by simpa using hm
    subst this
    exact .inl ⟨rfl, rfl⟩
  · cases h1
    have hl : (l.take m).length = m := by simp; omega
    refine .inr ⟨a, cap, by rw [hl], by rw [hl]; omega, h2', fun hne => h3 (by rintro rfl; simp at hne), fun k e hk j u hu => ?_⟩
    refine h4 k e ?_ j u hu
    have hk2 : k < m := by have := (List.getElem?_eq_some_iff.1 hk).1; omega
    rwa [List.getElem?_take_of_lt hk2] at hk
theorem lies_own {B t : Nat} {w : World} {v : Value} {l : List α} (hs : ∀ x, (c x).length = s) (h : w.ownsRow B t s v l.length (rc c l)) : RLies s c w v l := by
  rcases h.2 with ⟨hv, h0⟩ | ⟨g, cap, cur, hv, -, -, hcap, hmax, -⟩
  · have : l = [] := List.eq_nil_of_length_eq_zero h0
    subst this
    exact .inl ⟨hv, rfl⟩
  · refine .inr ⟨⟨g, 0, none⟩, cap, hv, hcap, hmax, fun _ => rfl, fun k e hk j u hu => ?_⟩
    have hkl := (List.getElem?_eq_some_iff.1 hk).1
    have hj := (List.getElem?_eq_some_iff.1 hu).1
    rw [hs] at hj
    subst hv
    rw [add_plain, Nat.zero_add, h.cellAt (k * s + j) (by have := Nat.mul_le_mul_right s (show k + 1 ≤ l.length by omega); rw [Nat.succ_mul] at this; omega), rc_get hs l k j e hj hk]
    exact hu
/-- An entry of a row of one's own. -/
theorem own_at {B t : Nat} {w : World} {v : Value} {l : List α} (hs : ∀ x, (c x).length = s) (h : w.ownsRow B t s v l.length (rc c l)) {k : Nat} {e : α} (hk : l[k]? = some e) :
    ∃ g cap, v = .slice (some ⟨g, 0, none⟩) l.length cap ∧ B ≤ g ∧ g < w.heap.size ∧ (∀ (j : Nat) u, (c e)[j]? = some u → w.cell? ⟨g, k * s + j, none⟩ = some u) ∧ (∀ j, w.frozen? ⟨g, j, none⟩ = false) ∧ ∃ cur, w.heap[g]? = some (.cells cur t (0, 0)) := by
  have hkl := (List.getElem?_eq_some_iff.1 hk).1
  rcases h.2 with ⟨hv, h0⟩ | ⟨g, cap, cur, hv, hB, hg, hcap, hmax, -⟩
  · omega
  · subst hv
    refine ⟨g, cap, rfl, hB, (Array.getElem?_eq_some_iff.1 hg).1, fun j u hu => ?_, h.frozenAt, cur, hg⟩
    have hj := (List.getElem?_eq_some_iff.1 hu).1
    rw [hs] at hj
    rw [h.cellAt (k * s + j) (by have := Nat.mul_le_mul_right s (show k + 1 ≤ l.length by omega); rw [Nat.succ_mul] at this; omega), rc_get hs l k j e hj hk]
    exact hu
/-- A cell of an entry stored. -/
theorem own_set {B t : Nat} {w : World} {g n cap : Nat} {l : List α} (hs : ∀ x, (c x).length = s) (h : w.ownsRow B t s (.slice (some ⟨g, 0, none⟩) n cap) l.length (rc c l)) {k i : Nat} {e e' : α} {u : Value} (hk : l[k]? = some e) (hi : i < s) (he : c e' = (c e).set i u) :
    (w.setCell ⟨g, k * s + i, none⟩ u).ownsRow B t s (.slice (some ⟨g, 0, none⟩) n cap) l.length (rc c (l.set k e')) := by
  have hn : n = l.length := by
    rcases h.2 with ⟨h0, _⟩ | ⟨g', cap', cur, hv, _⟩
    · cases h0
    · cases hv; rfl
  subst hn
  have := (h.stored (k * s + i) u).1
  rwa [rc_set hs l k i e e' u hi hk he] at this
/-- Fewer of a row. -/
theorem own_pop {B t : Nat} {w : World} {g n cap : Nat} {l : List α} {x : α} (hs : ∀ x, (c x).length = s) (h : w.ownsRow B t s (.slice (some ⟨g, 0, none⟩) n cap) (l.length + 1) (rc c (l ++ [x]))) : w.ownsRow B t s (.slice (some ⟨g, 0, none⟩) l.length cap) l.length (rc c l) := by
  have hn : n = l.length + 1 := by
    rcases h.2 with ⟨h0, _⟩ | ⟨g', cap', cur, hv, _⟩
    · cases h0
    · cases hv; rfl
  subst hn
  rw [rc_app] at h
  exact ownsRow_pop (rc_len hs l) h
end rows
theorem row_at {w w' : World} {B e s n : Nat} {v : Value} {xs : List Value} (h : w.ownsRow B e s v n xs) (hk : ∀ g cs z, w.heap[g]? = some (.cells cs e z) → v.ownBlock = some g → w'.heap[g]? = w.heap[g]?) : w'.ownsRow B e s v n xs := by
  refine ⟨h.1, ?_⟩
  rcases h.2 with h0 | ⟨g, cap, cur, h1, h2, h3, h4⟩
  · exact .inl h0
  · exact .inr ⟨g, cap, cur, h1, h2, by rw [hk g _ _ h3 (by rw [h1]; rfl)]; exact h3, h4⟩
theorem row_below {w w' : World} {B e s n : Nat} {v : Value} {xs : List Value} (h : w.ownsRow B e s v n xs) (hb : Below w.heap.size w w') : w'.ownsRow B e s v n xs :=
  row_at h fun g cs z hg _ => hb.block g (Array.getElem?_eq_some_iff.1 hg).1
theorem row_up {w : World} {B B' e s n : Nat} {v : Value} {xs : List Value} (h : w.ownsRow B e s v n xs) (hB : B' ≤ B) : w.ownsRow B' e s v n xs := by
  refine ⟨h.1, ?_⟩
  rcases h.2 with h0 | ⟨g, cap, cur, h1, h2, h3⟩
  · exact .inl h0
  · exact .inr ⟨g, cap, cur, h1, Nat.le_trans hB h2, h3⟩
theorem row_typed {w : World} {B e s n : Nat} {v : Value} {xs : List Value} (h : w.ownsRow B e s v n xs) : ∀ g, v.ownBlock = some g → ∃ cs, w.heap[g]? = some (.cells cs e (0, 0)) := by
  intro g hg
  rcases h.2 with ⟨h1, _⟩ | ⟨g', cap, cur, h1, h2, h3, _⟩
  · rw [h1] at hg; cases hg
  · rw [h1] at hg
    simp [Value.ownBlock] at hg
    subst hg
    exact ⟨_, h3⟩
theorem row_slice {w : World} {B e s : Nat} {v : Value} {n : Nat} {xs : List Value} (h : w.ownsRow B e s v n xs) : ∃ ao cap, v = .slice ao n cap := by
  rcases h.2 with ⟨hv, h0⟩ | ⟨g, cap, cur, hv, _⟩
  · subst h0; exact ⟨none, 0, hv⟩
  · exact ⟨_, _, hv⟩
/-- A row of another type stays when one block is turned. -/
theorem row_far {w w' : World} {B e s n : Nat} {v : Value} {xs : List Value} {g t : Nat} {cs : Array Value} {z : Nat × Nat} (h : w.ownsRow B e s v n xs) (hg : w.heap[g]? = some (.cells cs t z)) (ht : e ≠ t) (ho : ∀ b, b ≠ g → b < w.heap.size → w'.heap[b]? = w.heap[b]?) : w'.ownsRow B e s v n xs :=
  row_at h fun b cs' z' hb _ => ho b (fun e' => by subst e'; rw [hg] at hb; simp at hb; exact ht hb.2.1.symm) (Array.getElem?_eq_some_iff.1 hb).1
theorem row_grown {w w' : World} {B e s n : Nat} {v : Value} {xs : List Value} {t : Nat} {row : Option Nat} (h : w.ownsRow B e s v n xs) (hg : w.grownBy w' row) (hr : ∀ g, row = some g → ∃ cs z, w.heap[g]? = some (.cells cs t z)) (ht : e ≠ t) : w'.ownsRow B e s v n xs :=
  row_at h fun b cs' z' hb _ => hg.block b (Array.getElem?_eq_some_iff.1 hb).1 fun e' => by
    obtain ⟨cs2, z2, h2⟩ := hr b e'.symm
    rw [hb] at h2; simp at h2; exact ht h2.2.1

/-- A panic's value that is plain, or none. -/
inductive Pv where
  | nix
  | int (n : Int)
  | text (s : ByteArray)
  | err (s : ByteArray)
def Pv.k : Pv → Int | .nix => 0 | .int _ => 1 | .text _ => 3 | .err _ => 5
def Pv.n : Pv → Int | .int n => n | _ => 0
def Pv.s : Pv → ByteArray | .text s => s | .err s => s | _ => ⟨#[]⟩
def Pv.val (v : Pv) : Value := .agg #[.int .i64 v.k, .int .i64 v.n, .string v.s, .slice none 0 0]
/-- An activation: what it keeps, last first. -/
structure Fr where
  id : Int
  mark : Int
  pan : Int
  ph : Int
  df : List Int
/-- A panic in flight. -/
structure Pn where
  ser : Int
  v : Pv
  rc : Bool
  ab : Bool
/-- What is told. -/
structure Tl where
  k : Int
  n : Int
  to : Int
  v : Pv
/-- A state: activations and panics, the last first. -/
structure St where
  fr : List Fr
  ps : List Pn
  next : Int
  ser : Int
  fin : Int
  stat : Int
def Pn.cells (p : Pn) : List Value := [.int .i64 p.ser, .int .i64 p.v.k, .int .i64 p.v.n, .string p.v.s, .slice none 0 0, .bool p.rc, .bool p.ab]
def Tl.cells (t : Tl) : List Value := [.int .i64 t.k, .int .i64 t.n, .int .i64 t.to, .int .i64 t.v.k, .int .i64 t.v.n, .string t.v.s, .slice none 0 0]
theorem Pn.len (p : Pn) : p.cells.length = 7 := rfl
theorem Tl.len (t : Tl) : t.cells.length = 7 := rfl
def Tl.val (t : Tl) : Value := .agg #[.int .i64 t.k, .int .i64 t.n, .int .i64 t.to, .int .i64 t.v.k, .int .i64 t.v.n, .string t.v.s, .slice none 0 0]
/-- An activation and where its list lies. -/
structure Fe where
  x : Fr
  L : Value
def Fe.cells (e : Fe) : List Value := [.int .i64 e.x.id, .int .i64 e.x.mark, .int .i64 e.x.pan, .int .i64 e.x.ph, e.L]
theorem Fe.len (e : Fe) : e.cells.length = 5 := rfl
/-- A list of numbers that lies somewhere. -/
def ILies (w : World) (v : Value) (l : List Int) : Prop :=
  (v = .slice none 0 0 ∧ l = []) ∨ ∃ (a : Addr) (cap : Nat), v = .slice (some a) l.length cap ∧ l.length ≤ cap ∧ cap ≤ maxLen ∧ (l ≠ [] → a.spot = none) ∧ ∀ (k : Nat) i, l[k]? = some i → w.cell? (a.add k) = some (.int .i64 i)
theorem ILies.shape {w : World} {v : Value} {l : List Int} (h : ILies w v l) : ∃ ao cap, v = .slice ao l.length cap := by
  rcases h with ⟨h, rfl⟩ | ⟨a, cap, h, _⟩
  · exact ⟨none, 0, h⟩
  · exact ⟨_, _, h⟩
theorem ILies.below {w w' : World} {v : Value} {l : List Int} {B : Nat} (h : ILies w v l) (hb : Below B w w') (hB : w.heap.size ≤ B) : ILies w' v l := by
  rcases h with h | ⟨a, cap, h1, h2, h3, h4, h5⟩
  · exact .inl h
  · refine .inr ⟨a, cap, h1, h2, h3, h4, fun k x hk => ?_⟩
    have h0 := h5 k x hk
    rw [hb.cell (Nat.lt_of_lt_of_le (World.block_lt_of_cell? _ _ h0) hB)]
    exact h0
/-- Numbers in memory of their own, at B or above. -/
def IOwn (B : Nat) (w : World) (v : Value) (l : List Int) : Prop := w.ownsRow B 3 1 v l.length (l.map (Value.int .i64))
theorem IOwn.lies {w : World} {v : Value} {l : List Int} {B : Nat} (h : IOwn B w v l) : ILies w v l := by
  rcases h.2 with ⟨hv, h0⟩ | ⟨g, cap, cur, hv, -, -, hcap, hmax, -⟩
  · have : l = [] := List.eq_nil_of_length_eq_zero h0
    subst this
    exact .inl ⟨hv, rfl⟩
  · refine .inr ⟨⟨g, 0, none⟩, cap, hv, hcap, hmax, fun _ => rfl, fun k i hk => ?_⟩
    have hkl := (List.getElem?_eq_some_iff.1 hk).1
    subst hv
    rw [add_plain, Nat.zero_add, World.ownsRow.cellAt h k (by omega)]
    rw [List.getElem?_map, hk]; rfl
theorem IOwn.shape {w : World} {v : Value} {l : List Int} {B : Nat} (h : IOwn B w v l) : ∃ ao cap, v = .slice ao l.length cap := h.lies.shape
theorem IOwn.nil (B : Nat) (w : World) : IOwn B w (.slice none 0 0) [] := World.ownsRow_nil _ _ _ _
theorem IOwn.pop {w : World} {g n cap : Nat} {l : List Int} {x : Int} {B : Nat} (h : IOwn B w (.slice (some ⟨g, 0, none⟩) n cap) (l ++ [x])) : IOwn B w (.slice (some ⟨g, 0, none⟩) l.length cap) l := by
  have hn : n = l.length + 1 := by
    rcases h.2 with ⟨h0, _⟩ | ⟨g', cap', cur, hv, _⟩
    · cases h0
    · cases hv; simp
  subst hn
  unfold IOwn at h ⊢
  rw [List.map_append, List.length_append, List.length_singleton] at h
  exact ownsRow_pop (by simp) h
def noTwo (a b : Fe) : Prop := a.L.ownBlock = none ∨ a.L.ownBlock ≠ b.L.ownBlock
/-- Activations in memory of their own. -/
structure FRow (B : Nat) (w : World) (F : Value) (fes : List Fe) (frs : List Fr) : Prop where
  row : w.ownsRow B 53 5 F fes.length (rc Fe.cells fes)
  own : ∀ e ∈ fes, IOwn B w e.L e.x.df.reverse
  apart : fes.Pairwise noTwo
  xs : fes.map (·.x) = frs
theorem FRow.len {B : Nat} {w : World} {F : Value} {fes : List Fe} {frs : List Fr} (h : FRow B w F fes frs) : fes.length = frs.length := by rw [← h.xs, List.length_map]
theorem FRow.below {B : Nat} {w w' : World} {F : Value} {fes : List Fe} {frs : List Fr} (h : FRow B w F fes frs) (hb : Below w.heap.size w w') : FRow B w' F fes frs :=
  ⟨row_below h.row hb, fun e he => row_below (h.own e he) hb, h.apart, h.xs⟩
/-- The work: a state that is being turned, and what was told. -/
structure Wk (B p : Nat) (w : World) (F P T : Value) (fes : List Fe) (st : St) (td : List Tl) : Prop where
  box : w.heap[p]? = some (.cells #[F, P, .int .i64 st.next, .int .i64 st.ser, .int .i64 st.fin, .int .i64 st.stat, T] 62 (0, 0))
  low : B ≤ p
  fr : FRow B w F fes st.fr.reverse
  ps : w.ownsRow B 55 7 P st.ps.reverse.length (rc Pn.cells st.ps.reverse)
  td : w.ownsRow B 58 7 T td.length (rc Tl.cells td)
def WkI (B p : Nat) (w : World) (st : St) (td : List Tl) : Prop := ∃ F P T fes, Wk B p w F P T fes st td
section
variable {B p : Nat} {w w' : World} {F P T : Value} {fes : List Fe} {st : St} {td : List Tl}
theorem Wk.lt (h : Wk B p w F P T fes st td) : p < w.heap.size := (Array.getElem?_eq_some_iff.1 h.box).1
theorem Wk.below (h : Wk B p w F P T fes st td) (hb : Below w.heap.size w w') : Wk B p w' F P T fes st td :=
  ⟨by rw [hb.block p h.lt]; exact h.box, h.low, h.fr.below hb, row_below h.ps hb, row_below h.td hb⟩
theorem WkI.below (h : WkI B p w st td) (hb : Below w.heap.size w w') : WkI B p w' st td := by
  obtain ⟨F, P, T, fes, h⟩ := h
  exact ⟨F, P, T, fes, h.below hb⟩
theorem box7 {w : World} {b : Nat} {c0 c1 c2 c3 c4 c5 c6 : Value} {t : TypeId} (h : w.heap[b]? = some (.cells #[c0, c1, c2, c3, c4, c5, c6] t (0, 0))) :
    (w.cell? ⟨b, 0, none⟩ = some c0 ∧ w.cell? ⟨b, 1, none⟩ = some c1 ∧ w.cell? ⟨b, 2, none⟩ = some c2 ∧ w.cell? ⟨b, 3, none⟩ = some c3 ∧ w.cell? ⟨b, 4, none⟩ = some c4 ∧ w.cell? ⟨b, 5, none⟩ = some c5 ∧ w.cell? ⟨b, 6, none⟩ = some c6) ∧
    (w.frozen? ⟨b, 0, none⟩ = false ∧ w.frozen? ⟨b, 1, none⟩ = false ∧ w.frozen? ⟨b, 2, none⟩ = false ∧ w.frozen? ⟨b, 3, none⟩ = false ∧ w.frozen? ⟨b, 4, none⟩ = false ∧ w.frozen? ⟨b, 5, none⟩ = false ∧ w.frozen? ⟨b, 6, none⟩ = false) := by
  simp [World.cell?, World.frozen?, h]
theorem box6 {w : World} {b : Nat} {c0 c1 c2 c3 c4 c5 : Value} {t : TypeId} (h : w.heap[b]? = some (.cells #[c0, c1, c2, c3, c4, c5] t (0, 0))) :
    (w.cell? ⟨b, 0, none⟩ = some c0 ∧ w.cell? ⟨b, 1, none⟩ = some c1 ∧ w.cell? ⟨b, 2, none⟩ = some c2 ∧ w.cell? ⟨b, 3, none⟩ = some c3 ∧ w.cell? ⟨b, 4, none⟩ = some c4 ∧ w.cell? ⟨b, 5, none⟩ = some c5) ∧
    (w.frozen? ⟨b, 0, none⟩ = false ∧ w.frozen? ⟨b, 1, none⟩ = false ∧ w.frozen? ⟨b, 2, none⟩ = false ∧ w.frozen? ⟨b, 3, none⟩ = false ∧ w.frozen? ⟨b, 4, none⟩ = false ∧ w.frozen? ⟨b, 5, none⟩ = false) := by
  simp [World.cell?, World.frozen?, h]
theorem box_stays {w u : World} {o : Obj} (hb : Below (w.alloc o).heap.size (w.alloc o) u) : u.heap[w.heap.size]? = some o := by
  rw [hb.block _ (by simp)]; show (w.heap.push o)[w.heap.size]? = some o; exact Array.getElem?_push_size
theorem below_up {w u : World} {o : Obj} (hb : Below (w.alloc o).heap.size (w.alloc o) u) : Below w.heap.size w u := ((Below.refl _ _).alloc (Nat.le_refl _) _).trans (hb.mono (by simp))
/-- A cell of the work itself is stored. -/
theorem Wk.put0 (h : Wk B p w F P T fes st td) (i : Nat) (v : Value) (hi : i < 7) {F' P' T' : Value} {st' : St} {td' : List Tl} {fes' : List Fe}
    (hc : (#[F, P, .int .i64 st.next, .int .i64 st.ser, .int .i64 st.fin, .int .i64 st.stat, T] : Array Value).setIfInBounds i v = #[F', P', .int .i64 st'.next, .int .i64 st'.ser, .int .i64 st'.fin, .int .i64 st'.stat, T'])
    (hf : FRow B w F' fes' st'.fr.reverse) (hp : w.ownsRow B 55 7 P' st'.ps.reverse.length (rc Pn.cells st'.ps.reverse)) (ht : w.ownsRow B 58 7 T' td'.length (rc Tl.cells td')) :
    Wk B p (w.setCell ⟨p, i, none⟩ v) F' P' T' fes' st' td' ∧ Below B w (w.setCell ⟨p, i, none⟩ v) := by
  have hoth : ∀ b, b ≠ p → b < w.heap.size → (w.setCell ⟨p, i, none⟩ v).heap[b]? = w.heap[b]? := fun b hb _ => heap_setCell_other _ _ _ _ (by simpa using hb)
  refine ⟨⟨?_, h.low, ⟨row_far hf.row h.box (by decide) hoth, fun e he => row_far (hf.own e he) h.box (by decide) hoth, hf.apart, hf.xs⟩, row_far hp h.box (by decide) hoth, row_far ht h.box (by decide) hoth⟩, (Below.refl _ _).setCell h.low v⟩
  rw [heap_setCell_same w p i _ 62 v h.box, hc]
end
end Go.Proofs.Ytcnpoldcebdhjaa
