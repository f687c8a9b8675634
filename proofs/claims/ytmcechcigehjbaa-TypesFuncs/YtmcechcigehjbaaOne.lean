/- What types.reader's result and oneType do. -/
import Derived.Test.YtmcechcigehjbaaPars
namespace Go.Proofs.Ytmcechcigehjbaa
open Go.ChangeShapes Go.WideShapes Go.ChangeAt Go.RowKit
set_option maxRecDepth 100000
set_option linter.unusedSimpArgs false

theorem nat_ne {x n : UInt8} (h : x ≠ n) : ((x.toNat : Int) == (n.toNat : Int)) = false := by
  rw [beq_eq_false_iff_ne]
  intro e
  exact h (UInt8.toNat_inj.1 (by omega))
theorem list_head {x : ByteArray} {c : UInt8} {r : Tx} (h : x.data.toList = c :: r) : ∃ h0 : 0 < x.size, x[0] = c := by
  have hz : 0 < x.size := by rw [← bsize_list, h]; simp
  refine ⟨hz, ?_⟩
  rw [get_list x 0 hz]
  simp only [h]
  rfl
def resOk (o : Option Nat) : Bool := o.isSome
set_option maxHeartbeats 2000000 in
theorem own_result (n : Nat) (ih : OneAt n) {b : Nat} {f : FuncId} {c : Array Value} {I : List (Nat × ByteArray) → World → Prop} (F : Fnd b f c I) (p : Nat) (t : ByteArray) (w : World) (h : Rdr b t p w) (hp : p ≤ t.size) (ht : t.size ≤ 100) (hn : t.size - p ≤ n) (ps : List (Nat × ByteArray)) (hps : ps.length ≤ 4) (hI : I ps w) :
    Calls Try.prog 41 #[.pointer (some ⟨b, 0, none⟩), .func (.func f) #[] c] w fun e w' => e = .returned (.bool (resOk (res (tl n) (t.data.toList.drop p)))) ∧
      (∀ r, res (tl n) (t.data.toList.drop p) = some r → Rdr b t (p + r) w' ∧ I (ps ++ resP (tl n) (t.data.toList.drop p)) w') ∧ ∃ ps, I ps w' := by
  obtain ⟨c0, c1, f0⟩ := h.cells
  have hsl := slice_from t p hp
  have hdl := drop_list t p
  have HR : Hid (Rdr b t p w) := h
  have HI : Hid (I ps w) := hI
  clear h hI
  generalize t.extract p t.size = x at *
  cases hl : t.data.toList.drop p with
  | nil =>
    obtain ⟨e1, e2⟩ := res_free (f := tl n) (l := []) (.inl rfl)
    rw [e1, e2]
    rw [hl] at hdl
    have hxe : (x.toList == []) = true := by rw [ByteArray.toList_eq, hdl]; rfl
    clear e1 e2 hl hdl
    go_enter Try.func41, Try.ntmps41
    go_wp2_with fail
    go_quiet (fail)
    go_wp2_with fail
    go_ret
    exact ⟨rfl, fun r hr => by cases hr; rw [List.append_nil]; exact ⟨HR.out.drewN nq, F.keep HI.out (gb_drewN (World.grownBy.refl _ _) nq)⟩, ps, F.keep HI.out (gb_drewN (World.grownBy.refl _ _) nq)⟩
  | cons a r =>
    rw [hl] at hdl
    obtain ⟨hz, hx0⟩ := list_head hdl
    have hxe : (x.toList == []) = false := by rw [ByteArray.toList_eq, hdl]; rfl
    have hxs : x.size ≤ 100 := by rw [← bsize_list, hdl, ← hl, List.length_drop, bsize_list]; omega
    by_cases h44 : a = 44
    · obtain ⟨e1, e2⟩ := res_free (f := tl n) (l := a :: r) (.inr (.inl ⟨r, by rw [h44]⟩))
      rw [e1, e2]
      have b1 : ((x[0].toNat : Int) == 44) = true := by rw [hx0, h44]; rfl
      clear e1 e2 hl hdl hx0 h44
      go_enter Try.func41, Try.ntmps41
      go_wp2_with fail
      go_quiet (fail)
      go_wp2_with fail
      go_ret
      exact ⟨rfl, fun r hr => by cases hr; rw [List.append_nil]; exact ⟨HR.out.drewN nq, F.keep HI.out (gb_drewN (World.grownBy.refl _ _) nq)⟩, ps, F.keep HI.out (gb_drewN (World.grownBy.refl _ _) nq)⟩
    have b1 : ((x[0].toNat : Int) == 44) = false := by rw [hx0]; exact nat_ne (n := 44) h44
    by_cases h41 : a = 41
    · obtain ⟨e1, e2⟩ := res_free (f := tl n) (l := a :: r) (.inr (.inr ⟨r, by rw [h41]⟩))
      rw [e1, e2]
      have b2 : ((x[0].toNat : Int) == 41) = true := by rw [hx0, h41]; rfl
      clear e1 e2 hl hdl hx0 h44 h41
      go_enter Try.func41, Try.ntmps41
      go_wp2_with fail
      go_quiet (fail)
      go_wp2_with fail
      go_ret
      exact ⟨rfl, fun r hr => by cases hr; rw [List.append_nil]; exact ⟨HR.out.drewN nq, F.keep HI.out (gb_drewN (World.grownBy.refl _ _) nq)⟩, ps, F.keep HI.out (gb_drewN (World.grownBy.refl _ _) nq)⟩
    have b2 : ((x[0].toNat : Int) == 41) = false := by rw [hx0]; exact nat_ne (n := 41) h41
    obtain ⟨e1, e2⟩ := res_else (f := tl n) (l := a :: r) (by simp) (fun r' h => h44 (by cases h; rfl)) (fun r' h => h41 (by cases h; rfl))
    rw [e1, e2, ← hl]
    have HX := ext_take t p (tl n (t.data.toList.drop p))
    have HPT : Hid (∀ W, Rdr b t p W → I ps W → Calls Try.prog 45 #[.pointer (some ⟨b, 0, none⟩), .int .i64 4, .func (.func f) #[] c] W fun e w' => e = .returned (.bool (decide (tl n (t.data.toList.drop p) ≠ 0))) ∧
            (tl n (t.data.toList.drop p) ≠ 0 → Rdr b t (p + tl n (t.data.toList.drop p)) w' ∧ I (ps ++ [(4, t.extract p (p + tl n (t.data.toList.drop p)))]) w') ∧ (tl n (t.data.toList.drop p) = 0 → I ps w')) :=
          fun W hW hP => own_part n ih F p 4 (by omega) t W hW hp ht hn ps hps hP
    rw [HX] at HPT
    generalize tl n (t.data.toList.drop p) = m at *
    generalize (⟨((t.data.toList.drop p).take m).toArray⟩ : ByteArray) = y at *
    clear e1 e2 hl hdl hx0 h44 h41 HX
    by_cases hm : m = 0
    · subst hm
      have HZ : Hid (∀ (e : Ending) W, e = .returned (.bool false) → I ps W → (e = .returned (.bool (resOk (if (0:Nat) = 0 then none else some 0))) ∧ (∀ r, (if (0:Nat) = 0 then none else some 0) = some r → Rdr b t (p + r) W ∧ I (ps ++ if (0:Nat) = 0 then [] else [(4, y)]) W) ∧ ∃ ps, I ps W)) := fun e W h1 h2 => ⟨h1, fun r hr => by simp at hr, ps, h2⟩
      refine Calls.mono ?_ (fun e W (h : e = .returned (.bool false) ∧ I ps W) => HZ.out e W h.1 h.2)
      go_enter Try.func41, Try.ntmps41
      go_wp2_with fail
      go_quiet (fail)
      go_wp2_with fail
      refine (HPT.out _ (HR.out.drewN nq) (F.keep HI.out (gb_drewN (World.grownBy.refl _ _) nq))).mono ?_
      rintro e w2 ⟨rfl, -, i2⟩
      have HI2 : Hid (I ps w2) := i2 (by simp)
      clear i2
      go_wp2_with fail
      go_ret
      exact ⟨rfl, HI2.out⟩
    · have HZ : Hid (∀ (e : Ending) W, e = .returned (.bool true) → Rdr b t (p + m) W → I (ps ++ [(4, y)]) W → (e = .returned (.bool (resOk (if m = 0 then none else some m))) ∧ (∀ r, (if m = 0 then none else some m) = some r → Rdr b t (p + r) W ∧ I (ps ++ if m = 0 then [] else [(4, y)]) W) ∧ ∃ ps, I ps W)) := fun e W h1 h2 h3 => by
        rw [if_neg hm, if_neg hm]
        exact ⟨h1, fun r hr => by cases hr; exact ⟨h2, h3⟩, _, h3⟩
      refine Calls.mono ?_ (fun e W (h : e = .returned (.bool true) ∧ Rdr b t (p + m) W ∧ I (ps ++ [(4, y)]) W) => HZ.out e W h.1 h.2.1 h.2.2)
      have hd : decide (m ≠ 0) = true := by simpa using hm
      rw [hd] at HPT
      have HM : Hid (m ≠ 0) := hm
      clear hd hm
      go_enter Try.func41, Try.ntmps41
      go_wp2_with fail
      go_quiet (fail)
      go_wp2_with fail
      refine (HPT.out _ (HR.out.drewN nq) (F.keep HI.out (gb_drewN (World.grownBy.refl _ _) nq))).mono ?_
      rintro e w2 ⟨rfl, i2, -⟩
      have HI2 : Hid (Rdr b t (p + m) w2 ∧ I (ps ++ [(4, y)]) w2) := i2 HM.out
      clear i2
      go_wp2_with fail
      go_ret
      exact ⟨rfl, HI2.out⟩
end Go.Proofs.Ytmcechcigehjbaa
