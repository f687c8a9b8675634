/- What scan.Tokens answers. -/
import Derived.Test.YtpdndpajobfhmabGreatDoorTok1
namespace Go.Proofs.YtpdndpajobfhmabGreatDoor
open Go.ChangeShapes Go.WideShapes Go.ChangeAt Go.RowKit
set_option maxRecDepth 100000
set_option linter.unusedSimpArgs false

theorem rest_pos {src : ByteArray} {p : Nat} (h : p < src.size) : 0 < (src.extract p src.size).size := by rw [ByteArray.size_extract]; omega
/-- All steps, and the end. -/
def runR (src : ByteArray) : Nat → Sc → Res
  | 0, s => .ok s
  | f + 1, s => if h : s.pos < src.size then (match s.stepR (src.extract s.pos src.size) (rest_pos h) with
      | .ok s' => runR src f s'
      | .bad c ln cl => .bad c ln cl)
    else s.closeR
def sc0 : Sc := ⟨0, 1, 0, []⟩
/-- The tokens of a source, or what is wrong. -/
def tokR (src : ByteArray) : Res := if 8000 < src.size then .bad 1 0 0 else runR src (src.size + 1) sc0
theorem addR_len {s s' : Sc} {k : Int} {t : ByteArray} (h : s.addR k t = .ok s') (hl : s.ts.length ≤ 2000) : s'.ts.length ≤ 2000 := by
  unfold Sc.addR at h
  split at h
  · cases h
  · cases h; simp [Sc.put]; omega
theorem closeR_len {s s' : Sc} (h : s.closeR = .ok s') (hl : s.ts.length ≤ 2000) : s'.ts.length ≤ 2000 := by
  unfold Sc.closeR at h
  split at h
  · cases h; exact hl
  · split at h
    · exact addR_len h hl
    · cases h; exact hl
theorem lnN_pos {l : List UInt8} (h : Lib.hasPrefix l [47, 47] = true) : 1 ≤ lnN l := by
  cases l with
  | nil => simp [Lib.hasPrefix] at h
  | cons a l =>
    simp [Lib.hasPrefix] at h
    obtain ⟨rfl, _⟩ := h
    simp [lnN]
/-- A step keeps the state in order, and goes on. -/
theorem step_ok {src : ByteArray} {s s' : Sc} (ho : s.Ok src) (hp : s.pos < src.size) (h : s.stepR (src.extract s.pos src.size) (rest_pos hp) = .ok s') : s'.Ok src ∧ s.pos < s'.pos := by
  have hrz : (src.extract s.pos src.size).size = src.size - s.pos := by rw [ByteArray.size_extract]; omega
  obtain ⟨o1, o2, o3, o4, o5⟩ := ho
  unfold Sc.stepR at h
  split at h
  · cases hc : s.closeR with
    | bad c ln cl => rw [hc] at h; cases h
    | ok s1 =>
      rw [hc] at h
      cases h
      exact ⟨⟨by simp; omega, by simp, by simp; omega, o4, show s1.ts.length ≤ 2000 from closeR_len hc o5⟩, by simp⟩
  split at h
  · cases h; exact ⟨⟨by simp; omega, by simp; omega, by simp; omega, o4, o5⟩, by simp⟩
  split at h
  · rename_i hpre
    cases h
    have h1 := lnN_pos hpre
    have h2 := lnN_le (src.extract s.pos src.size).data.toList
    rw [bsize_list, hrz] at h2
    generalize lnN (src.extract s.pos src.size).data.toList = m at *
    exact ⟨⟨show s.pos + m ≤ src.size by omega, show s.bg ≤ s.pos + m by omega, show s.line ≤ s.pos + m + 1 by omega, o4, o5⟩, show s.pos < s.pos + m by omega⟩
  split at h
  · rename_i he
    obtain ⟨n, hn1, hn2, hn3⟩ := fsT_ok _ _ he
    rw [hn1, Int.toNat_natCast] at h
    cases ha : s.addR (fsT (src.extract s.pos src.size) (rest_pos hp)).1 ((src.extract s.pos src.size).extract 0 n) with
    | bad c ln cl => rw [ha] at h; cases h
    | ok s1 =>
      rw [ha] at h
      cases h
      obtain ⟨e1, e2, e3⟩ := addR_same ha
      exact ⟨⟨show s.pos + n ≤ src.size by omega, show s1.bg ≤ s.pos + n by omega, show s1.line ≤ s.pos + n + 1 by omega, o4, show s1.ts.length ≤ 2000 from addR_len ha o5⟩, show s.pos < s.pos + n by omega⟩
  · cases h
theorem sc0_ok {src : ByteArray} (h : src.size ≤ 8000) : sc0.Ok src := ⟨by simp [sc0], by simp [sc0], by simp [sc0], h, by simp [sc0]⟩
theorem scn_new (w : World) (src : ByteArray) : Scn w.heap.size w.heap.size src sc0 (w.alloc (.cells #[.string src, .int .i64 0, .int .i64 1, .int .i64 0, .slice none 0 0] 62)) :=
  ⟨Nat.le_refl _, .slice none 0 0, heap_alloc_new w _, World.ownsRow_nil _ _ _ _, by simp [Value.ownBlock]⟩
theorem two_vars (w : World) : ((w.alloc (.cells #[.slice none 0 0] 42)).alloc (.cells #[.int .i64 0, .int .i64 0, .int .i64 0] 25)).heap[w.heap.size]? = some (.cells #[.slice none 0 0] 42 (0, 0)) ∧ ((w.alloc (.cells #[.slice none 0 0] 42)).alloc (.cells #[.int .i64 0, .int .i64 0, .int .i64 0] 25)).heap[w.heap.size + 1]? = some (.cells #[.int .i64 0, .int .i64 0, .int .i64 0] 25 (0, 0)) ∧ Below w.heap.size w ((w.alloc (.cells #[.slice none 0 0] 42)).alloc (.cells #[.int .i64 0, .int .i64 0, .int .i64 0] 25)) := by
  refine ⟨?_, ?_, ((Below.refl _ _).alloc (Nat.le_refl _) _).alloc (by simp) _⟩
  · rw [Lib.alloc_old _ _ w.heap.size (by simp)]; exact heap_alloc_new w _
  · have := heap_alloc_new (w.alloc (.cells #[.slice none 0 0] 42)) (.cells #[.int .i64 0, .int .i64 0, .int .i64 0] 25)
    simpa using this
/-- What Tokens answers. -/
def Told (w : World) (r : Res) (e : Ending) (w' : World) : Prop :=
  Below w.heap.size w w' ∧ match r with
  | .ok s => ∃ v, e = .returned (.tuple #[v, .agg #[.int .i64 0, .int .i64 0, .int .i64 0]]) ∧ w'.ownsRow w.heap.size 64 4 v s.ts.length (tcells s.ts)
  | .bad c ln cl => e = .returned (.tuple #[.slice none 0 0, .agg #[.int .i64 c, .int .i64 ln, .int .i64 cl]])

set_option maxHeartbeats 4000000 in
theorem tokens_long (src : ByteArray) (w : World) (h : 8000 < src.size) (hs : src.size ≤ maxLen) :
    Calls Tryz.prog 15 #[.string src] w (Told w (tokR src)) := by
  have hR : tokR src = .bad 1 0 0 := by unfold tokR; rw [if_pos h]
  rw [hR]
  unfold maxLen at hs
  have hmf : ∀ (fn : Fn) (first cap : Array Value) (w : World), (Instr.makeFunc fn first cap).run Tryz.prog w = .ok (.func fn first cap) w := fun _ _ _ _ => rfl
  clear hR
  go_enter_defers Tryz.func15, Tryz.ntmps15
  go_wp2
  refine leaves_cons (f := 25) (args := #[.pointer (some ⟨w.heap.size, 0, none⟩), .pointer (some ⟨w.heap.size + 1, 0, none⟩)]) (by simp) (by simp [go_sem]) ?_
  have HN : Hid (((w.alloc (.cells #[.slice none 0 0] 42)).alloc (.cells #[.int .i64 0, .int .i64 0, .int .i64 0] 25)).heap[w.heap.size]? = some (.cells #[.slice none 0 0] 42 (0, 0)) ∧ ((w.alloc (.cells #[.slice none 0 0] 42)).alloc (.cells #[.int .i64 0, .int .i64 0, .int .i64 0] 25)).heap[w.heap.size + 1]? = some (.cells #[.int .i64 0, .int .i64 0, .int .i64 0] 25 (0, 0)) ∧ Below w.heap.size w ((w.alloc (.cells #[.slice none 0 0] 42)).alloc (.cells #[.int .i64 0, .int .i64 0, .int .i64 0] 25))) := two_vars w
  refine (catch_panic w.heap.size w.heap.size (w.heap.size + 1) 1 0 0 (.slice none 0 0) _ (Nat.le_refl _) (by omega) (by simp; omega) HN.out.1 HN.out.2.1).mono ?_
  rintro e u' w'' ⟨rfl, rfl, h1, h2, h3⟩
  have c0 : w''.cell? ⟨w.heap.size, 0, none⟩ = some (.slice none 0 0) := by simp [World.cell?, h1]
  have s0 : w''.cell? ⟨w.heap.size + 1, 0, none⟩ = some (.int .i64 1) := by simp [World.cell?, h2]
  have s1 : w''.cell? ⟨w.heap.size + 1, 1, none⟩ = some (.int .i64 0) := by simp [World.cell?, h2]
  have s2 : w''.cell? ⟨w.heap.size + 1, 2, none⟩ = some (.int .i64 0) := by simp [World.cell?, h2]
  have HB : Hid (Below w.heap.size w w'') := HN.out.2.2.trans h3
  clear h1 h2 h3
  simp [Leaves, settle, results, Tryz.results15, go_sem, c0, s0, s1, s2]
  exact ⟨HB.out, rfl⟩
end Go.Proofs.YtpdndpajobfhmabGreatDoor
