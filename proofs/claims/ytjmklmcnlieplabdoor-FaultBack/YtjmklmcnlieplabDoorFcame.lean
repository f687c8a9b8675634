/- A run-time error that came in. -/
import Derived.Test.YtjmklmcnlieplabDoorFtext
import Derived.Lib.SmallJoins
import Derived.Carry
import Derived.SizedLaws
namespace Go.Proofs.YtjmklmcnlieplabDoor
open Go.ChangeShapes Go.WideShapes Go.ChangeAt Go.RowKit
set_option maxRecDepth 100000
theorem Tryd.cellsFlt : Tryd.prog.cellsOf 23 = 4 := by kernel_rfl
theorem i64_wf {n : Int} (h : (Lit.int .i64 n).wf = true) : I64 n := by
  simp [Lit.wf, IntKind.min, IntKind.max, IntKind.bits, IntKind.signed] at h; unfold I64; omega
theorem fcame_of {H : Type} {enc : TypeId × Value → H} {W : World} {r : Reach} {b0 : Nat} {v : Value} {d : DataW H} {p : List MemPlace}
    (hv : Value.okWide Tryd.prog W r b0 23 v) (h : DataW.Trod enc Tryd.prog W 0 (fun _ => true) true 23 v d p) :
    ∃ x : Fl, v = fv x ∧ FIn x := by
  obtain ⟨v0, v1, v2, v3, y0, y1, y2, y3, n, rfl, rfl, rfl, g0, g1, g2, g3⟩ := Joins.open_agg4 Tryd.underlying23 (by kernel_rfl) Tryd.cellsFlt hv h
  obtain ⟨n0, e0, r0, k0⟩ := DataW.trod_int Tryd.underlying3 g0
  obtain ⟨n1, e1, r1, k1⟩ := DataW.trod_int Tryd.underlying3 g1
  obtain ⟨n2, e2, r2, k2⟩ := DataW.trod_int Tryd.underlying3 g2
  obtain ⟨n3, e3, r3, k3⟩ := DataW.trod_int Tryd.underlying3 g3
  simp at e0 e1 e2 e3
  subst e0; subst e1; subst e2; subst e3
  exact ⟨⟨n0, n1, n2, n3⟩, rfl, i64_wf k0, i64_wf k1, i64_wf k2, i64_wf k3⟩
end Go.Proofs.YtjmklmcnlieplabDoor
