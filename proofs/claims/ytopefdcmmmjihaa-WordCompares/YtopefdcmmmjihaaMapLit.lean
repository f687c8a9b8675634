/- A map with int keys that a literal makes: each entry laid in, and a look-up, as equations for a walk; whatever the program. -/
import Derived.Maps.Own
import Derived.WalkKit
namespace Go.Proofs.Ytopefdcmmmjihaa
open Go.MapKept Go.ChangeMaps

/-- The blocks of a list, laid one behind the other. -/
def lays (w : World) : List Obj → World
  | [] => w
  | o :: r => lays (w.alloc o) r

theorem lays_size (os : List Obj) : ∀ w : World, (lays w os).heap.size = w.heap.size + os.length := by
  induction os with
  | nil => intro w; simp [lays]
  | cons o r ih => intro w; rw [lays, ih, World.size_alloc]; simp; omega

theorem lays_old (os : List Obj) : ∀ (w : World) (b : Nat), b < w.heap.size → (lays w os).heap[b]? = w.heap[b]? := by
  induction os with
  | nil => intro w b _; rfl
  | cons o r ih =>
    intro w b h
    rw [lays, ih _ _ (by rw [World.size_alloc]; omega)]
    show (w.heap.push o)[b]? = _
    rw [Array.getElem?_push, if_neg (by omega)]

theorem setBlock_alloc (w : World) (o o' : Obj) (b : Nat) (h : b < w.heap.size) : setBlock (w.alloc o) b o' = (setBlock w b o').alloc o := by
  show ({ w with heap := (w.heap.push o).setIfInBounds b o' } : World) = { w with heap := (w.heap.setIfInBounds b o').push o }
  congr 1
  apply Array.ext_getElem?
  intro i
  simp only [Array.getElem?_push, Array.getElem?_setIfInBounds, Array.size_push, Array.size_setIfInBounds]
  by_cases hb : b = i
  · subst hb
    rw [if_pos rfl, if_pos (by omega), if_neg (by omega), if_pos rfl, if_pos h]
  · rw [if_neg hb, if_neg hb]

theorem setBlock_size (w : World) (b : Nat) (o : Obj) : (setBlock w b o).heap.size = w.heap.size := by simp [setBlock]

theorem setBlock_lays (os : List Obj) : ∀ (w : World) (b : Nat) (o' : Obj), b < w.heap.size → setBlock (lays w os) b o' = lays (setBlock w b o') os := by
  induction os with
  | nil => intro w b o' _; rfl
  | cons o r ih =>
    intro w b o' h
    rw [lays, lays, ih _ _ _ (by rw [World.size_alloc]; omega), setBlock_alloc w o o' b h]

theorem setBlock_last (w : World) (o o' : Obj) : setBlock (w.alloc o) w.heap.size o' = w.alloc o' := by
  show ({ w with heap := (w.heap.push o).setIfInBounds w.heap.size o' } : World) = { w with heap := w.heap.push o' }
  congr 1
  apply Array.ext_getElem?
  intro i
  simp only [Array.getElem?_setIfInBounds, Array.getElem?_push, Array.size_push]
  by_cases hi : w.heap.size = i
  · subst hi; simp
  · rw [if_neg hi, if_neg (by omega), if_neg (by omega)]

theorem map_there (w : World) (es : Array MapEntry) (clock : Nat) (os : List Obj) : (lays (w.alloc (.map es clock)) os).heap[w.heap.size]? = some (.map es clock) := by
  rw [lays_old _ _ _ (by rw [World.size_alloc]; omega)]
  show (w.heap.push (.map es clock))[w.heap.size]? = _
  simp

/-- AN ENTRY OF A NEW KEY. -/
theorem insert_new {P : Program} {T K E : TypeId} (hT : P.underlying T = some (.map K E)) (hK : P.underlying K = some (.int .i64))
    (w : World) (es : Array MapEntry) (clock : Nat) (os : List Obj) (n : Int) (v : Value) (hnew : Instr.findNow (.int .i64) (.int .i64 n) es.toList 0 = some none) :
    (Instr.mapUpdate T (.map (some w.heap.size)) (.int .i64 n) v).run P (lays (w.alloc (.map es clock)) os)
      = .ok () (lays (w.alloc (.map (es.push { key := .int .i64 n, val := v, born := clock }) (clock + 1))) os) := by
  have hb := map_there w es clock os
  have hk : IsKey (.int .i64) (.int .i64 n) := by simp [IsKey]
  simp [Instr.mapUpdate, run_underlying hT, MapKept.run_getObj_map hb, run_checkKey hK hk, run_findKey hK hnew, MapKept.run_setObj_map _ hb, Result.andThen]
  have e := setBlock_lays os (w.alloc (.map es clock)) w.heap.size (.map (es.push { key := .int .i64 n, val := v, born := clock }) (clock + 1)) (by rw [World.size_alloc]; omega)
  rw [setBlock_last] at e
  exact e

/-- A LOOK-UP, WITH 'ok', THAT FINDS. -/
theorem look_found {P : Program} {T K E : TypeId} (hT : P.underlying T = some (.map K E)) (hK : P.underlying K = some (.int .i64))
    (w : World) (es : Array MapEntry) (clock : Nat) (os : List Obj) (n : Int) {i : Nat} {v : Value} (h : Instr.findNow (.int .i64) (.int .i64 n) es.toList 0 = some (some (i, v))) :
    (Instr.lookup T (.map (some w.heap.size)) (.int .i64 n) true).run P (lays (w.alloc (.map es clock)) os) = .ok (.tuple #[v, .bool true]) (lays (w.alloc (.map es clock)) os) := by
  have hb := map_there w es clock os
  have hk : IsKey (.int .i64) (.int .i64 n) := by simp [IsKey]
  simp [Instr.lookup, run_underlying hT, MapKept.run_getObj_map hb, run_checkKey hK hk, run_findKey hK h, Result.andThen]

/-- A LOOK-UP, WITH 'ok', THAT FINDS NOTHING. -/
theorem look_none {P : Program} {T K E : TypeId} (hT : P.underlying T = some (.map K E)) (hK : P.underlying K = some (.int .i64))
    (w : World) (es : Array MapEntry) (clock : Nat) (os : List Obj) (n : Int) {z : Value} (hz : ∀ w, (zeroValue E).run P w = .ok z w) (h : Instr.findNow (.int .i64) (.int .i64 n) es.toList 0 = some none) :
    (Instr.lookup T (.map (some w.heap.size)) (.int .i64 n) true).run P (lays (w.alloc (.map es clock)) os) = .ok (.tuple #[z, .bool false]) (lays (w.alloc (.map es clock)) os) := by
  have hb := map_there w es clock os
  have hk : IsKey (.int .i64) (.int .i64 n) := by simp [IsKey]
  simp [Instr.lookup, run_underlying hT, MapKept.run_getObj_map hb, run_checkKey hK hk, run_findKey hK h, hz, Result.andThen]
end Go.Proofs.Ytopefdcmmmjihaa
