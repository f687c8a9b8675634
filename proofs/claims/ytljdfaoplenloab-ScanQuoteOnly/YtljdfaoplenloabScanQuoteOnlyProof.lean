/-
  ScanQuoteOnly returns true for every text, and the argument reads afterwards as before; no condition.
-/
import Derived.Test.YtljdfaoplenloabOwnread
import Derived.Test.YtljdfaoplenloabQback
import Derived.ProofKit
import Derived.OpenShut
namespace Go.Proofs.Ytljdfaoplenloab.scanQuoteOnly
open Go.ChangeShapes Go.WideShapes Go.ChangeAt Go.RowKit
open Go.WideMaps Go.WideElems
open Go.ChangeMaps (open_string shut_string)
set_option linter.unusedVariables false

theorem own : ownKnob Try.prog.godebug = none := by kernel_rfl

theorem back_str (s : ByteArray) : (⟨s.data.toList.toArray⟩ : ByteArray) = s := (str_of (s := s) rfl).symm
theorem said_size {l : List UInt8} (h : qE l = 0) : (⟨l.toArray⟩ : ByteArray).size ≤ maxLen := by
  have e : (⟨l.toArray⟩ : ByteArray).size = l.length := by rw [← size_list]
  unfold qE at h
  split at h
  · cases h
  · unfold maxLen; omega
theorem walk (a0 : ByteArray) (w0 : a0.size ≤ maxLen)  (w : World)  :
    Calls Try.prog 4 #[.string a0] w fun e w' => e = .returned (.bool true) ∧ Below w.heap.size w w' := by
  have H1 : Hid (∀ W, Calls Try.prog 6 #[.string a0] W fun e w' => e = .returned (.tuple #[.string ⟨(uqS a0.data.toList).toArray⟩, .int .i64 (uqE a0.data.toList)]) ∧ Below W.heap.size W w') := fun W => own_unquote a0 W w0
  have H3 : Hid (∀ W, Calls Try.prog 6 #[.string ⟨#[34, 92, 116, 34]⟩] W fun e w' => e = .returned (.tuple #[.string ⟨#[9]⟩, .int .i64 0]) ∧ Below W.heap.size W w') := fun W => by
    have := own_unquote ⟨#[34, 92, 116, 34]⟩ W (by decide)
    rw [show uqS (⟨#[34, 92, 116, 34]⟩ : ByteArray).data.toList = [9] by decide, show uqE (⟨#[34, 92, 116, 34]⟩ : ByteArray).data.toList = 0 by decide] at this
    exact this
  rcases quote_only a0.data.toList with ⟨h1, h2, h3⟩ | ⟨h1, h2⟩
  · have H2 : Hid (∀ W, Calls Try.prog 5 #[.string ⟨(uqS a0.data.toList).toArray⟩] W fun e w' => e = .returned (.tuple #[.string a0, .int .i64 0]) ∧ Below W.heap.size W w') := fun W => by
      have := own_quote ⟨(uqS a0.data.toList).toArray⟩ W (said_size h3)
      have e1 : (⟨(uqS a0.data.toList).toArray⟩ : ByteArray).data.toList = uqS a0.data.toList := rfl
      rw [e1, h2, h3, back_str] at this
      exact this
    rw [h1] at H1
    generalize (⟨(uqS a0.data.toList).toArray⟩ : ByteArray) = q at *
    clear h1 h2 h3 w0
    go_enter Try.func4, Try.ntmps4
    go_wp2_with fail
    refine (H1.out _).mono ?_
    rintro e w1 ⟨rfl, hb1⟩
    go_wp2_with fail
    refine (H3.out _).mono ?_
    rintro e w2 ⟨rfl, hb2⟩
    go_wp2_with fail
    refine (H2.out _).mono ?_
    rintro e w3 ⟨rfl, hb3⟩
    go_wp2
    go_ret
    exact ⟨rfl, (hb1.trans (hb2.mono hb1.size)).trans (hb3.mono (Nat.le_trans hb1.size hb2.size))⟩
  · rw [h1, h2] at H1
    clear h1 h2 w0
    go_enter Try.func4, Try.ntmps4
    go_wp2_with fail
    refine (H1.out _).mono ?_
    rintro e w1 ⟨rfl, hb1⟩
    go_wp2_with fail
    refine (H3.out _).mono ?_
    rintro e w2 ⟨rfl, hb2⟩
    go_wp2
    go_ret
    exact ⟨rfl, hb1.trans (hb2.mono hb1.size)⟩

theorem contract (H : Type) (enc : TypeId × Value → H) (W : World) (base : Nat) (args : Array Value) (ds gs : List (DataW H)) (before : List MemPlace)
    (hval : ∀ (j : Nat) t v, Try.f4.params[j]? = some t → args[j]? = some v → Value.okWide Try.prog W .any base t v)
    (hW : DataW.Whole enc Try.prog Try.f4.params.toList Rows.scanQuoteOnlySpec.vars false W args.toList ds gs before) :
    Calls Try.prog 4 args W fun e W' => ∃ v, e = .returned v ∧ Rows.scanQuoteOnlySpec.post enc Try.prog Try.f4 false true false false W args v W' := by
  have hW' := hW
  obtain ⟨p, q, hA0, hV, rfl, hfz, hnd⟩ := hW
  have hA : DataW.TrodAll enc Try.prog W 0 (fun _ => true) true Try.f4.params.toList args.toList ds p := hA0
  rw [Try.params4] at hA hval
  obtain ⟨v0, vs0, d0, ds0, p0, q0, hargs, rfl, rfl, h0, r0⟩ := trodAll_cons hA
  obtain ⟨rfl, rfl, rfl⟩ := trodAll_nil r0
  obtain rfl : args = #[v0] := by cases args; simp_all
  obtain ⟨rfl, rfl⟩ := trodVars_none hV
  obtain ⟨a0, rfl, rfl, rfl, w0⟩ := open_string Try.underlying9 (hval 0 9 v0 rfl rfl) h0
  clear hA0
  simp only [List.append_nil] at hW'
  refine (walk a0 w0  W).mono fun e W' ⟨he, bel⟩ => ?_
  subst he
  exact ⟨_, rfl, _, _, _, [], [], [], hW', trodAll_mk1 (shut_bool Try.underlying4 _), (trodAll_cons_mk (shut_string Try.underlying9 w0) trodAll_mk0), rfl, bel.frame _, fun h => by cases h⟩

set_option maxRecDepth 100000 in
theorem lifted (os : Os) (started : os.Started) (H : Type) (enc : TypeId × Value → H) :
    ReturnsInHanded {} Try.checked os 4 .any (Rows.scanQuoteOnlySpec.pre6 enc Try.prog Try.f4 Rows.scanQuoteOnlyRow.domain false) (Rows.scanQuoteOnlySpec.post enc Try.prog Try.f4 false true false false) := by
  refine returnsInHanded_of_change (C := Try.checked) own started (by kernel_rfl) Try.func4
    (ChangeSpec.witness6 (enc := enc) (C := Try.checked) false ⟨#[], #[.string ByteArray.empty], []⟩ 8 (by kernel_rfl) (by kernel_rfl) (by kernel_rfl) (by kernel_rfl)) ?_
  intro W base args ds gs before hval0 hW hcnd _
  exact contract H enc W base args ds gs before hval0 hW

theorem proved : Rows.ScanQuoteOnlySaid :=
  OpenClaim.holds_of_wide 4 Try.f4 rfl rfl rfl rfl rfl rfl rfl ⟨rfl, rfl, rfl, rfl, rfl⟩ rfl rfl rfl rfl rfl (by kernel_rfl) Try.func4 (by kernel_rfl)
    (of_decide_eq_true (by kernel_rfl)) (by unfold Func.isWrapper; first | (rw [if_pos (by decide +kernel)]; kernel_rfl) | (rw [if_neg (by decide +kernel)]; exact ⟨rfl, rfl⟩))
    (fun os started H enc _ => lifted os started H enc)
#print axioms proved
end Go.Proofs.Ytljdfaoplenloab.scanQuoteOnly
