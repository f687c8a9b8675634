/- What the reference shows of a value. -/
import Derived.Test.YtncjaohiimenaaaDoorVshow
import Derived.Test.YtncjaohiimenaaaDoorVmap
import Derived.Test.YtncjaohiimenaaaDoorBig6
namespace Go.Proofs.YtncjaohiimenaaaDoor
open Go.ChangeShapes Go.WideShapes Go.ChangeAt Go.RowKit
set_option maxRecDepth 100000
set_option linter.unusedSimpArgs false
set_option linter.unusedVariables false

theorem decimal_any (n : Int) (h0 : -9223372036854775808 ≤ n) (h1 : n ≤ 9223372036854775807) (w : World) :
    Calls Tryd.prog 25 #[.int .i64 n] w fun e w' => e = .returned (.string (txt n)) ∧ Below w.heap.size w w' := by
  go_enter Tryd.func25, Tryd.ntmps25
  go_wp2_with fail
  refine (whole_any n h0 h1 w).mono ?_
  rintro e w1 ⟨b, rfl, -, hb, hbel⟩
  have HB : Hid (Big w1 b n) := hb
  clear hb
  go_wp2_with fail
  refine (string_any b n w1 HB.out (by omega) (by omega)).mono ?_
  rintro e w2 ⟨rfl, hbel2⟩
  go_wp2
  go_ret
  exact ⟨rfl, hbel.trans (hbel2.mono hbel.size)⟩
def insOf (t s : ByteArray) (d : Nat → Bool) (n : Int) : Option Value :=
  if n = 1 ∧ d 4 = true then some (.string t)
  else if n = 3 ∧ d 7 = true then some (.string s)
  else if n = 5 ∧ d 10 = true then some (.string s)
  else if n = 4 ∧ d 11 = true then some (.string ⟨#[110, 105, 108]⟩)
  else if n = 7 ∧ d 12 = true then some (.string ⟨#[112, 111, 105, 110, 116, 101, 114]⟩)
  else if n = 8 ∧ d 13 = true then some (.string ⟨#[102, 117, 110, 99]⟩)
  else none
theorem ins_new4 (t s : ByteArray) (d : Nat → Bool) (h : d 4 = false) : insOf t s d 1 = none := by simp [insOf, h]
theorem ins_upd4 (t s : ByteArray) (d : Nat → Bool) (h : d 4 = false) : insOf t s (updB d 4) = fun n => if n = 1 then some (.string t) else insOf t s d n := by
  funext n
  by_cases hn : n = 1
  · subst hn; simp [insOf, updB]
  · simp [insOf, updB, hn]
theorem ins_new7 (t s : ByteArray) (d : Nat → Bool) (h : d 7 = false) : insOf t s d 3 = none := by simp [insOf, h]
theorem ins_upd7 (t s : ByteArray) (d : Nat → Bool) (h : d 7 = false) : insOf t s (updB d 7) = fun n => if n = 3 then some (.string s) else insOf t s d n := by
  funext n
  by_cases hn : n = 3
  · subst hn; simp [insOf, updB]
  · simp [insOf, updB, hn]
theorem ins_new10 (t s : ByteArray) (d : Nat → Bool) (h : d 10 = false) : insOf t s d 5 = none := by simp [insOf, h]
theorem ins_upd10 (t s : ByteArray) (d : Nat → Bool) (h : d 10 = false) : insOf t s (updB d 10) = fun n => if n = 5 then some (.string s) else insOf t s d n := by
  funext n
  by_cases hn : n = 5
  · subst hn; simp [insOf, updB]
  · simp [insOf, updB, hn]
theorem ins_new11 (t s : ByteArray) (d : Nat → Bool) (h : d 11 = false) : insOf t s d 4 = none := by simp [insOf, h]
theorem ins_upd11 (t s : ByteArray) (d : Nat → Bool) (h : d 11 = false) : insOf t s (updB d 11) = fun n => if n = 4 then some (.string ⟨#[110, 105, 108]⟩) else insOf t s d n := by
  funext n
  by_cases hn : n = 4
  · subst hn; simp [insOf, updB]
  · simp [insOf, updB, hn]
theorem ins_new12 (t s : ByteArray) (d : Nat → Bool) (h : d 12 = false) : insOf t s d 7 = none := by simp [insOf, h]
theorem ins_upd12 (t s : ByteArray) (d : Nat → Bool) (h : d 12 = false) : insOf t s (updB d 12) = fun n => if n = 7 then some (.string ⟨#[112, 111, 105, 110, 116, 101, 114]⟩) else insOf t s d n := by
  funext n
  by_cases hn : n = 7
  · subst hn; simp [insOf, updB]
  · simp [insOf, updB, hn]
theorem ins_new13 (t s : ByteArray) (d : Nat → Bool) (h : d 13 = false) : insOf t s d 8 = none := by simp [insOf, h]
theorem ins_upd13 (t s : ByteArray) (d : Nat → Bool) (h : d 13 = false) : insOf t s (updB d 13) = fun n => if n = 8 then some (.string ⟨#[102, 117, 110, 99]⟩) else insOf t s d n := by
  funext n
  by_cases hn : n = 8
  · subst hn; simp [insOf, updB]
  · simp [insOf, updB, hn]
theorem ins_keep0 (t s : ByteArray) (d : Nat → Bool) : insOf t s (updB d 0) = insOf t s d := by funext n; simp [insOf, updB]
theorem ins_keep1 (t s : ByteArray) (d : Nat → Bool) : insOf t s (updB d 1) = insOf t s d := by funext n; simp [insOf, updB]
theorem ins_keep2 (t s : ByteArray) (d : Nat → Bool) : insOf t s (updB d 2) = insOf t s d := by funext n; simp [insOf, updB]
theorem ins_keep3 (t s : ByteArray) (d : Nat → Bool) : insOf t s (updB d 3) = insOf t s d := by funext n; simp [insOf, updB]
theorem ins_keep5 (t s : ByteArray) (d : Nat → Bool) : insOf t s (updB d 5) = insOf t s d := by funext n; simp [insOf, updB]
theorem ins_keep6 (t s : ByteArray) (d : Nat → Bool) : insOf t s (updB d 6) = insOf t s d := by funext n; simp [insOf, updB]
theorem ins_keep8 (t s : ByteArray) (d : Nat → Bool) : insOf t s (updB d 8) = insOf t s d := by funext n; simp [insOf, updB]
theorem ins_keep9 (t s : ByteArray) (d : Nat → Bool) : insOf t s (updB d 9) = insOf t s d := by funext n; simp [insOf, updB]
theorem ins_keep14 (t s : ByteArray) (d : Nat → Bool) : insOf t s (updB d 14) = insOf t s d := by funext n; simp [insOf, updB]
theorem ins_keep15 (t s : ByteArray) (d : Nat → Bool) : insOf t s (updB d 15) = insOf t s d := by funext n; simp [insOf, updB]
theorem ins_none (t s : ByteArray) (d : Nat → Bool) (h : d 4 = false ∧ d 7 = false ∧ d 10 = false ∧ d 11 = false ∧ d 12 = false ∧ d 13 = false) : insOf t s d = fun _ => none := by funext n; simp [insOf, h]
def Two (d : Nat → Bool) (f : Nat → Value) : Prop := (d 14 = true → f 14 = f 0) ∧ (d 15 = true → f 15 = f 0)
theorem Two.keep {d : Nat → Bool} {f : Nat → Value} (h : Two d f) (k : Nat) (v : Value) (h0 : 0 ≠ k) (h1 : 14 ≠ k) (h2 : 15 ≠ k) : Two (updB d k) (upd f k v) := by
  refine ⟨fun e => ?_, fun e => ?_⟩
  · rw [updB_ne' h1] at e; rw [upd_ne h1, upd_ne h0]; exact h.1 e
  · rw [updB_ne' h2] at e; rw [upd_ne h2, upd_ne h0]; exact h.2 e
theorem zero_str : ∀ w, (zeroValue 9).run Tryd.prog w = .ok (.string ⟨#[]⟩) w := fun w => by
  have : Tryd.prog.info? 9 = Tryd.prog.info? 9 := rfl
  obtain ⟨i0, hi, hz0, hz1, hz2⟩ := info_parts Tryd.infoStrV
  simp [zeroValue, typeInfo, hi, hz0]
/-- The look-up, all entries laid. -/
theorem ins_all (x : Vv) (d : Nat → Bool) (h : ∀ i, i < 16 → d i = true) (h2 : ¬ x.kind = 2) (h6 : ¬ x.kind = 6) : (insOf (txt x.n) x.s d x.kind).getD (.string ⟨#[]⟩) = .string (showV x) := by
  have a4 := h 4 (by decide)
  have a7 := h 7 (by decide)
  have a10 := h 10 (by decide)
  have a11 := h 11 (by decide)
  have a12 := h 12 (by decide)
  have a13 := h 13 (by decide)
  unfold insOf showV
  by_cases k1 : x.kind = 1
  · simp [k1, a4]
  by_cases k3 : x.kind = 3
  · simp [k3, a7]
  by_cases k5 : x.kind = 5
  · simp [k5, a10]
  by_cases k4 : x.kind = 4
  · simp [k4, a11]
  by_cases k7 : x.kind = 7
  · simp [k7, a12]
  by_cases k8 : x.kind = 8
  · simp [k8, a13]
  simp [k1, k3, k5, k4, k7, k8, h2, h6]
/-- The list's text as it grows. -/
def accB (l : List Int) (k : Nat) : ByteArray := (⟨#[91]⟩ : ByteArray) ++ joined (l.take k)
theorem join_snoc (sep : List UInt8) (y : List UInt8) : ∀ xs : List (List UInt8), Lib.join (xs ++ [y]) sep = if xs = [] then y else Lib.join xs sep ++ sep ++ y
  | [] => by simp [Lib.join]
  | [a] => by simp [Lib.join, List.intercalate, List.intersperse]
  | a :: b :: r => by
    have := join_snoc sep y (b :: r)
    simp only [Lib.join, List.cons_append] at this ⊢
    simp [List.intercalate, List.intersperse] at this ⊢
    rw [this]
theorem ba_cat (a b : List UInt8) : (⟨(a ++ b).toArray⟩ : ByteArray) = (⟨a.toArray⟩ : ByteArray) ++ ⟨b.toArray⟩ := by
  apply ByteArray.ext
  simp
theorem accB_zero (l : List Int) : accB l 0 = ⟨#[91]⟩ := by
  unfold accB joined
  apply ByteArray.ext
  simp [Lib.join]
theorem accB_first (l : List Int) (h : 0 < l.length) : accB l 1 = accB l 0 ++ txt l[0] := by
  rw [accB_zero]
  unfold accB joined
  have e : l.take 1 = [l[0]] := by
    cases l with
    | nil => simp at h
    | cons a r => rfl
  rw [e]
  congr 1
  simp [Lib.join, txt]
theorem accB_step (l : List Int) (k : Nat) (h : k < l.length) (h0 : 0 < k) : accB l (k + 1) = accB l k ++ ⟨#[32]⟩ ++ txt l[k] := by
  unfold accB joined
  have e : l.take (k + 1) = l.take k ++ [l[k]] := List.take_succ_eq_append_getElem h
  have hne : ¬ (l.take k).map Lib.itoa = [] := by
    intro hx
    have h1 := congrArg List.length hx
    rw [List.length_map, List.length_take, List.length_nil] at h1
    omega
  rw [e, List.map_append, List.map_singleton, join_snoc, if_neg hne, ba_cat, ba_cat]
  rw [← ByteArray.append_assoc, ← ByteArray.append_assoc]
  rfl
theorem accB_all (l : List Int) : accB l l.length ++ ⟨#[93]⟩ = showL l := by
  unfold accB showL
  rw [List.take_length]
theorem accB_size (l : List Int) (k : Nat) (h : ∀ i ∈ l, (Lit.int .i64 i).wf = true) : (accB l k).size ≤ 1 + 22 * l.length := by
  unfold accB joined
  rw [ByteArray.size_append]
  have h1 := joined_len (l.take k) (fun i hi => h i (List.mem_of_mem_take hi))
  have h2 : (l.take k).length ≤ l.length := by simp; omega
  have e1 : (⟨#[91]⟩ : ByteArray).size = 1 := rfl
  have e2 : (⟨(Lib.join ((l.take k).map Lib.itoa) [32]).toArray⟩ : ByteArray).size = (Lib.join ((l.take k).map Lib.itoa) [32]).length := List.size_toArray ..
  rw [e1, e2]
  omega
end Go.Proofs.YtncjaohiimenaaaDoor
