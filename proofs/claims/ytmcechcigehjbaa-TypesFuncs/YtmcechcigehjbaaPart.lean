/- What types.reader's part does, given what oneType does. -/
import Derived.Test.YtmcechcigehjbaaPlaintype
import Derived.Test.YtmcechcigehjbaaHeadlaw
namespace Go.Proofs.Ytmcechcigehjbaa
open Go.ChangeShapes Go.WideShapes Go.ChangeAt Go.RowKit
set_option maxRecDepth 100000
set_option linter.unusedSimpArgs false

theorem slice_mid (s : ByteArray) (p m : Nat) (hq : p + m ≤ s.size) (W : World) : (Instr.slice 9 (.string s) (some (.int .i64 (p : Int))) (some (.int .i64 ((p : Int) + (m : Int)))) none).run Try.prog W = .ok (.string (s.extract p (p + m))) W := by
  rw [run_slice_string W 9 s .i64 .i64 p (p + m) Try.underlying9 (by omega) (by omega) (by omega)]
  congr 3
/-- A finder: what holds behind the parts that it was handed; f, c: the function and what it holds. -/
structure Fnd (b : Nat) (f : FuncId) (c : Array Value) (I : List (Nat × ByteArray) → World → Prop) : Prop where
  run : ∀ args W, (callFunc f args).run Try.prog W = .ok (.enter f args) W
  keep : ∀ {ps w w'}, I ps w → w.grownBy w' (some b) → I ps w'
  call : ∀ ps (k : Nat) s w, k ≤ 4 → ps.length ≤ 4 → s.size ≤ 100 → (∃ t p, Rdr b t p w) → I ps w → Calls Try.prog f (#[.int .i64 k, .string s] ++ c) w fun e w' => e = .returned (.tuple #[]) ∧ I (ps ++ [(k, s)]) w' ∧ w'.heap[b]? = w.heap[b]?
/-- oneType with nobody to tell, at texts of at most n bytes. -/
def OneAt (n : Nat) : Prop := ∀ (b p : Nat) (t : ByteArray) (w : World), Rdr b t p w → p ≤ t.size → t.size ≤ 100 → t.size - p ≤ n →
    Calls Try.prog 32 #[.pointer (some ⟨b, 0, none⟩), .func (.func 23) #[] #[]] w fun e w' => e = .returned (.bool (decide (tl n (t.data.toList.drop p) ≠ 0))) ∧ (tl n (t.data.toList.drop p) ≠ 0 → Rdr b t (p + tl n (t.data.toList.drop p)) w') ∧ w.grownBy w' (some b)
set_option maxHeartbeats 1000000 in
theorem own_part (n : Nat) (ih : OneAt n) {b : Nat} {f : FuncId} {c : Array Value} {I : List (Nat × ByteArray) → World → Prop} (F : Fnd b f c I) (p k : Nat) (hk : k ≤ 4) (t : ByteArray) (w : World) (h : Rdr b t p w) (hp : p ≤ t.size) (ht : t.size ≤ 100) (hn : t.size - p ≤ n)
    (ps : List (Nat × ByteArray)) (hps : ps.length ≤ 4) (hI : I ps w) :
    Calls Try.prog 45 #[.pointer (some ⟨b, 0, none⟩), .int .i64 k, .func (.func f) #[] c] w fun e w' => e = .returned (.bool (decide (tl n (t.data.toList.drop p) ≠ 0))) ∧
      (tl n (t.data.toList.drop p) ≠ 0 → Rdr b t (p + tl n (t.data.toList.drop p)) w' ∧ I (ps ++ [(k, t.extract p (p + tl n (t.data.toList.drop p)))]) w') ∧ (tl n (t.data.toList.drop p) = 0 → I ps w') := by
  obtain ⟨c0, c1, f0⟩ := h.cells
  have HI : Hid (∀ W, Rdr b t p W → Calls Try.prog 32 #[.pointer (some ⟨b, 0, none⟩), .func (.func 23) #[] #[]] W fun e w' => e = .returned (.bool (decide (tl n (t.data.toList.drop p) ≠ 0))) ∧ (tl n (t.data.toList.drop p) ≠ 0 → Rdr b t (p + tl n (t.data.toList.drop p)) w') ∧ W.grownBy w' (some b)) := fun W hW => ih b p t W hW hp ht hn
  have hle := tl_le n (t.data.toList.drop p)
  rw [List.length_drop, bsize_list] at hle
  generalize tl n (t.data.toList.drop p) = m at *
  have HR : Hid (Rdr b t p w) := h
  have HP : Hid (I ps w) := hI
  have hcf := F.run
  clear h ih hI
  by_cases hm : m ≠ 0
  · have hd : decide (m ≠ 0) = true := by simpa using hm
    rw [hd] at HI ⊢
    have HM : Hid (m ≠ 0) := hm
    clear hd hm
    go_enter Try.func45, Try.ntmps45
    go_wp2_with fail
    refine (HI.out _ HR.out).mono ?_
    rintro e w1 ⟨rfl, r1, q1⟩
    have HR1 : Hid (Rdr b t (p + m) w1) := r1 HM.out
    have HP1 : Hid (I ps w1) := F.keep HP.out q1
    have hsl := slice_mid t p m (by omega)
    obtain ⟨d0, d1, g0⟩ := HR1.out.cells
    have HC : Hid (Calls Try.prog f (#[.int .i64 k, .string (t.extract p (p + m))] ++ c) (w1.drewN 1) fun e w' => e = .returned (.tuple #[]) ∧ I (ps ++ [(k, t.extract p (p + m))]) w' ∧ w'.heap[b]? = w1.heap[b]?) :=
      F.call ps k _ (w1.drewN 1) hk hps (by rw [ByteArray.size_extract]; omega) ⟨t, p + m, HR1.out.drewN 1⟩ (F.keep HP1.out (gb_drewN (World.grownBy.refl _ _) 1))
    clear r1 q1
    go_wp2_with fail
    refine wp_region_any (by kernel_rfl) ?_
    refine wpAny_head 0 12 1 (by kernel_rfl) (shutl_none _) (fun _ _ d _ _ h => by cases d <;> exact h) (by kernel_rfl) (by kernel_rfl) (by kernel_rfl) ?_
    simp only [List.take_succ_cons, List.take_zero, List.drop_succ_cons, List.drop_zero]
    repeat (refine wpVal_step _ (by rfl) (by go_simp; try with_reducible rfl) ?_; simp only [Act.put, List.setIfInBounds_toArray, List.set_cons_zero, List.set_cons_succ])
    refine wpVal_nil ?_
    refine wpAny_ready (rs := [12]) (by kernel_rfl) (by simp) ?_
    refine AllReady.cons rfl (fun K hK => ?_) AllReady.nil
    go_simp
    refine HC.out.mono ?_
    rintro e w2 ⟨rfl, i2, b2⟩
    refine hK _ _ ?_
    clear hK K
    refine wpAny_done (by kernel_rfl) ?_ _
    go_wp2_with fail
    go_ret
    exact ⟨rfl, fun _ => ⟨b2.trans HR1.out, i2⟩, fun h => absurd h HM.out⟩
  · obtain rfl : m = 0 := by omega
    have hd : decide ((0 : Nat) ≠ 0) = false := rfl
    rw [hd] at HI ⊢
    go_enter Try.func45, Try.ntmps45
    go_wp2_with fail
    refine (HI.out _ HR.out).mono ?_
    rintro e w1 ⟨rfl, r1, q1⟩
    have HP1 : Hid (I ps w1) := F.keep HP.out q1
    clear r1 q1
    go_wp2_with fail
    go_ret
    exact ⟨rfl, fun h => absurd rfl h, fun _ => HP1.out⟩
end Go.Proofs.Ytmcechcigehjbaa
