/-
  panics.Begin answers exactly the state in which main runs.
-/
import Derived.Test.YtcnpoldcebdhjaaPbeg
namespace Go.Proofs.Ytcnpoldcebdhjaa.panicsBegins
open Go.ChangeShapes Go.WideShapes Go.ChangeAt Go.RowKit
open Go.WideMaps Go.WideElems
open Go.ChangeMaps (open_string shut_string)
set_option linter.unusedVariables false

theorem own : ownKnob Try.prog.godebug = none := by kernel_rfl

theorem fr_first {B : Nat} {w : World} {F : Value} (h : FRow B w F [⟨bFr, .slice none 0 0⟩] bSt.fr.reverse) : ∃ g c, F = .slice (some ⟨g, 0, none⟩) 1 c ∧ g < w.heap.size ∧ ∀ (j : Nat) u, (Fe.cells ⟨bFr, .slice none 0 0⟩)[j]? = some u → w.cell? ⟨g, j, none⟩ = some u := by
  obtain ⟨g, cap, hv, -, hg, hc, -, -⟩ := own_at Fe.len h.row (k := 0) (e := ⟨bFr, .slice none 0 0⟩) rfl
  exact ⟨g, cap, hv, hg, fun j u hu => by have := hc j u hu; simpa using this⟩
theorem cf_of {g1 g2 c1 c2 : Nat} {w : World} (k1 : ∀ (j : Nat) u, (Fe.cells ⟨bFr, .slice none 0 0⟩)[j]? = some u → w.cell? ⟨g1, j, none⟩ = some u) (k2 : ∀ (j : Nat) u, (Fe.cells ⟨bFr, .slice none 0 0⟩)[j]? = some u → w.cell? ⟨g2, j, none⟩ = some u) (h1 : g1 < w.heap.size) (h2 : g2 < w.heap.size) :
    ∀ u, Below w.heap.size w u → u.cell? ⟨w.heap.size, 0, none⟩ = some (.slice (some ⟨g1, 0, none⟩) 1 c1) → u.cell? ⟨w.heap.size + 1, 0, none⟩ = some (.slice (some ⟨g2, 0, none⟩) 1 c2) → CF g1 g2 w.heap.size c1 c2 u := fun u hu x y => by
  refine ⟨⟨?_, ?_, ?_, ?_, ?_⟩, ⟨?_, ?_, ?_, ?_, ?_⟩, x, y⟩
  · rw [hu.cell h1]; exact k1 0 _ rfl
  · rw [hu.cell h1]; exact k1 1 _ rfl
  · rw [hu.cell h1]; exact k1 2 _ rfl
  · rw [hu.cell h1]; exact k1 3 _ rfl
  · rw [hu.cell h1]; exact k1 4 _ rfl
  · rw [hu.cell h2]; exact k2 0 _ rfl
  · rw [hu.cell h2]; exact k2 1 _ rfl
  · rw [hu.cell h2]; exact k2 2 _ rfl
  · rw [hu.cell h2]; exact k2 3 _ rfl
  · rw [hu.cell h2]; exact k2 4 _ rfl

theorem walk    (w : World)  :
    Calls Try.prog 3 #[] w fun e w' => e = .returned (.bool true) ∧ Below w.heap.size w w' := by
  go_enter Try.func3, Try.ntmps3
  go_wp2_with fail
  refine (own_beginX _).mono ?_
  rintro e w1 ⟨F1, rfl, hr1, hb1⟩
  have HB1 : Hid (Below w.heap.size w w1) := hb1
  have HR1 : Hid (∃ g c, F1 = .slice (some ⟨g, 0, none⟩) 1 c ∧ g < w1.heap.size ∧ ∀ (j : Nat) u, (Fe.cells ⟨bFr, .slice none 0 0⟩)[j]? = some u → w1.cell? ⟨g, j, none⟩ = some u) := fr_first hr1
  clear hr1 hb1
  unfold St.val
  go_wp2_with fail
  refine (ref_beginP _).mono ?_
  rintro e w2 ⟨F2, rfl, hr2, hb2⟩
  have HB2 : Hid (Below w.heap.size w w2) := HB1.out.trans (hb2.mono HB1.out.size)
  have HR2 : Hid (∃ g c, F2 = .slice (some ⟨g, 0, none⟩) 1 c ∧ g < w2.heap.size ∧ ∀ (j : Nat) u, (Fe.cells ⟨bFr, .slice none 0 0⟩)[j]? = some u → w2.cell? ⟨g, j, none⟩ = some u) := fr_first hr2
  obtain ⟨g1, c1, rfl, hg1, k1⟩ := HR1.out
  obtain ⟨g2, c2, rfl, hg2, k2⟩ := HR2.out
  have k1' : ∀ (j : Nat) u, (Fe.cells ⟨bFr, .slice none 0 0⟩)[j]? = some u → w2.cell? ⟨g1, j, none⟩ = some u := fun j u hu => by rw [hb2.cell hg1]; exact k1 j u hu
  have hg1' : g1 < w2.heap.size := Nat.lt_of_lt_of_le hg1 hb2.size
  have HS : Hid _ := ref_sameB g1 g2 c1 c2 w2 (cf_of k1' k2 hg1' hg2)
  clear HR1 HR2 hb2 k1 k2 k1' hg1 hg1' hg2
  unfold St.val
  go_wp2_with fail
  refine Calls.mono HS.out ?_
  rintro e w3 ⟨rfl, hb3⟩
  have HF : Hid (Below w.heap.size w w3) := HB2.out.trans (hb3.mono HB2.out.size)
  clear hb3
  go_wp2_with fail
  go_ret
  exact ⟨rfl, HF.out⟩

theorem contract (H : Type) (enc : TypeId × Value → H) (W : World) (base : Nat) (args : Array Value) (ds gs : List (DataW H)) (before : List MemPlace)
    (hval : ∀ (j : Nat) t v, Try.f3.params[j]? = some t → args[j]? = some v → Value.okWide Try.prog W .any base t v)
    (hW : DataW.Whole enc Try.prog Try.f3.params.toList Rows.panicsBeginsSpec.vars false W args.toList ds gs before) :
    Calls Try.prog 3 args W fun e W' => ∃ v, e = .returned v ∧ Rows.panicsBeginsSpec.post enc Try.prog Try.f3 false true false false W args v W' := by
  have hW' := hW
  obtain ⟨p, q, hA0, hV, rfl, hfz, hnd⟩ := hW
  have hA : DataW.TrodAll enc Try.prog W 0 (fun _ => true) true Try.f3.params.toList args.toList ds p := hA0
  rw [Try.params3] at hA hval
  obtain ⟨hargs, rfl, rfl⟩ := trodAll_nil hA
  obtain rfl : args = #[] := by cases args; simp_all
  obtain ⟨rfl, rfl⟩ := trodVars_none hV
  clear hA0
  simp only [List.append_nil] at hW'
  refine (walk    W).mono fun e W' ⟨he, bel⟩ => ?_
  subst he
  exact ⟨_, rfl, _, _, _, [], [], [], hW', trodAll_mk1 (shut_bool Try.underlying4 _), trodAll_mk0, rfl, bel.frame _, fun h => by cases h⟩

set_option maxRecDepth 100000 in
theorem lifted (os : Os) (started : os.Started) (H : Type) (enc : TypeId × Value → H) :
    ReturnsInHanded {} Try.checked os 3 .any (Rows.panicsBeginsSpec.pre6 enc Try.prog Try.f3 Rows.panicsBeginsRow.domain false) (Rows.panicsBeginsSpec.post enc Try.prog Try.f3 false true false false) := by
  refine returnsInHanded_of_change (C := Try.checked) own started (by kernel_rfl) Try.func3
    (ChangeSpec.witness6 (enc := enc) (C := Try.checked) false ⟨#[], #[], []⟩ 8 (by kernel_rfl) (by kernel_rfl) (by kernel_rfl) (by kernel_rfl)) ?_
  intro W base args ds gs before hval0 hW hcnd _
  exact contract H enc W base args ds gs before hval0 hW

theorem proved : Rows.PanicsBeginsSaid :=
  OpenClaim.holds_of_wide 3 Try.f3 rfl rfl rfl rfl rfl rfl rfl ⟨rfl, rfl, rfl, rfl, rfl⟩ rfl rfl rfl rfl rfl (by kernel_rfl) Try.func3 (by kernel_rfl)
    (of_decide_eq_true (by kernel_rfl)) (by unfold Func.isWrapper; first | (rw [if_pos (by decide +kernel)]; kernel_rfl) | (rw [if_neg (by decide +kernel)]; exact ⟨rfl, rfl⟩))
    (fun os started H enc _ => lifted os started H enc)
#print axioms proved
end Go.Proofs.Ytcnpoldcebdhjaa.panicsBegins
