/- What fault.Text answers. -/
import Derived.Test.YtjmklmcnlieplaaDoorFtold
namespace Go.Proofs.YtjmklmcnlieplaaDoor
open Go.ChangeShapes Go.WideShapes Go.ChangeAt Go.RowKit
set_option maxRecDepth 100000
set_option linter.unusedSimpArgs false
set_option linter.unusedVariables false
def leadB : ByteArray := ⟨#[114, 117, 110, 116, 105, 109, 101, 32, 101, 114, 114, 111, 114, 58, 32]⟩
/-- A form with its numbers. -/
def saidL (t : Nat × Int × Int) : List UInt8 := fillL (formP t.1) t.2.1 t.2.2 (formP t.1).length
/-- What an error tells. -/
def textF (x : Fl) : ByteArray := if (toldF x).1 = 10 then ⟨#[]⟩ else leadB ++ ⟨(saidL (toldF x)).toArray⟩
structure FIn (x : Fl) : Prop where
  k : I64 x.k
  a : I64 x.a
  b : I64 x.b
  c : I64 x.c
theorem below1 {w u : World} {o : Obj} (hb : Below (w.alloc o).heap.size (w.alloc o) u) : Below w.heap.size w u := ((Below.refl _ _).alloc (Nat.le_refl _) _).trans (hb.mono (by simp))
theorem i64_0 : I64 0 := ⟨by decide, by decide⟩
theorem told_in {x : Fl} (h : FIn x) : (toldF x).1 ≤ 10 ∧ I64 (toldF x).2.1 ∧ I64 (toldF x).2.2 := by
  have h0 := i64_0
  unfold toldF toldB
  repeat' split
  all_goals exact ⟨by simp, by first | exact h0 | exact h.a | exact h.b | exact h.c, by first | exact h0 | exact h.a | exact h.b | exact h.c⟩
theorem form_ne (i : Nat) (h : i < 10) : ((formB i).toList == ([] : List UInt8)) = false := by
  have : i = 0 ∨ i = 1 ∨ i = 2 ∨ i = 3 ∨ i = 4 ∨ i = 5 ∨ i = 6 ∨ i = 7 ∨ i = 8 ∨ i = 9 := by omega
  rcases this with rfl | rfl | rfl | rfl | rfl | rfl | rfl | rfl | rfl | rfl <;> (rw [ByteArray.toList_eq]; rfl)
theorem said_len {t : Nat × Int × Int} (h : t.1 < 10) (h0 : I64 t.2.1) (h1 : I64 t.2.2) : (saidL t).length ≤ 363 := by
  have h2 := fill_len h0 h1 (form_is t.1 h).short (formP t.1).length
  have h3 := (form_is t.1 h).few
  unfold saidL
  omega
set_option maxHeartbeats 4000000 in
theorem own_text (x : Fl) (hx : FIn x) (w : World) (hp : Pow w) :
    Calls Tryd.prog 5 #[fv x] w fun e w' => e = .returned (.string (textF x)) ∧ Below w.heap.size w w' := by
  obtain ⟨h10, q0, q1⟩ := told_in hx
  have HT : Hid (∀ u, Calls Tryd.prog 9 #[fv x] u fun e w' => e = .returned (tv (toldF x)) ∧ Below u.heap.size u w') := fun u => own_told x u
  have HP : Hid (Pow w) := hp
  unfold textF
  generalize toldF x = t at *
  obtain ⟨i, n0, n1⟩ := t
  dsimp only at *
  unfold fv at *
  unfold tv at HT
  by_cases h : i = 10
  · subst h
    rw [if_pos rfl]
    clear hx q0 q1 hp
    go_enter Tryd.func5, Tryd.ntmps5
    go_wp2_with fail
    refine (HT.out _).mono ?_
    rintro e u1 ⟨rfl, b1⟩
    have HB : Hid (Below w.heap.size w (u1.alloc (nbox n0 n1))) := (below1 b1).alloc (below1 b1).size _
    clear b1
    unfold formB
    go_wp2_with fail
    go_ret
    exact ⟨rfl, HB.out⟩
  · rw [if_neg h]
    have hi : i < 10 := by omega
    have hne := form_ne i hi
    have hl := said_len (t := (i, n0, n1)) hi q0 q1
    have HF : Hid (∀ u, Pow u → Calls Tryd.prog 10 #[.string (formB i), .agg #[.int .i64 n0, .int .i64 n1]] u fun e w' => e = .returned (.string ⟨(saidL (i, n0, n1)).toArray⟩) ∧ Below u.heap.size u w') := fun u hu => own_fill (formB i) (formP i) n0 n1 (form_is i hi) q0 q1 u hu
    have hz : (⟨(saidL (i, n0, n1)).toArray⟩ : ByteArray).size ≤ 363 := by show (saidL (i, n0, n1)).toArray.size ≤ 363; rw [List.size_toArray]; exact hl
    generalize formB i = fm at *
    generalize (⟨(saidL (i, n0, n1)).toArray⟩ : ByteArray) = sd at *
    clear hx q0 q1 hp hl
    go_enter Tryd.func5, Tryd.ntmps5
    go_wp2_with fail
    refine (HT.out _).mono ?_
    rintro e u1 ⟨rfl, b1⟩
    have HB : Hid (Below w.heap.size w (u1.alloc (nbox n0 n1))) := (below1 b1).alloc (below1 b1).size _
    clear b1
    go_wp2_with fail
    refine (HF.out _ (HP.out.below HB.out)).mono ?_
    rintro e u2 ⟨rfl, b2⟩
    go_wp2_with fail
    go_ret
    exact ⟨rfl, HB.out.trans (b2.mono HB.out.size)⟩
end Go.Proofs.YtjmklmcnlieplaaDoor
