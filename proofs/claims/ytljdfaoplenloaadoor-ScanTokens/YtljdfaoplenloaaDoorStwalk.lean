/- Both Tokens answer alike: the walk of the law. -/
import Derived.Test.YtljdfaoplenloaaDoorReftoks
import Derived.Test.YtljdfaoplenloaaDoorSmem
import Derived.Deep.QuietTactic
namespace Go.Proofs.YtljdfaoplenloaaDoor
open Go.ChangeShapes Go.WideShapes Go.ChangeAt Go.RowKit
set_option maxRecDepth 100000
set_option linter.unusedSimpArgs false
set_option linter.unusedVariables false

set_option maxHeartbeats 4000000 in
theorem same_tokens (l : List Tk) (B : Nat) (w : World) (ao bo : Option Addr) (ca cb : Nat) (hA : w.ownsRow B 33 4 (.slice ao l.length ca) l.length (tcells l)) (hB : w.ownsRow B 33 4 (.slice bo l.length cb) l.length (tcells l)) :
    Calls Tryd.prog 8 #[.slice ao l.length ca, .slice bo l.length cb] w fun e w' => e = .returned (.bool true) ∧ ∃ m, w' = w.drewN m := by
  have hn := row_len hA
  unfold maxLen at hn
  have HA : Hid (w.ownsRow B 33 4 (.slice ao l.length ca) l.length (tcells l)) := hA
  have HB : Hid (w.ownsRow B 33 4 (.slice bo l.length cb) l.length (tcells l)) := hB
  clear hA hB
  go_enter Tryd.func8, Tryd.ntmps8
  go_wp2
  go_loopw [5] (fun i wr => ∃ (k m : Nat), k ≤ l.length ∧ i = .int .i64 k ∧ wr = w.drewN m) (fun i _ => l.length - (intOf i).toNat)
  case atStart => exact ⟨0, 0, Nat.zero_le _, rfl, rfl⟩
  case round =>
    obtain ⟨k, m, hk, rfl, rfl⟩ := hrel
    by_cases hlt : k < l.length
    · obtain ⟨x, hx⟩ : ∃ x, l[k]? = some x := ⟨l[k], List.getElem?_eq_getElem hlt⟩
      obtain ⟨g, rfl, p0, p1, p2, p3⟩ := row_tok HA.out hx
      obtain ⟨g', rfl, q0, q1, q2, q3⟩ := row_tok HB.out hx
      generalize x.kind = kk at *
      generalize x.text = tt at *
      generalize x.line = ll at *
      generalize x.col = cc at *
      clear hx
      go_wp2
      go_quiet (fail)
      go_wp2
      exact ⟨⟨k + 1, _, by omega, by simp, rfl⟩, by simp [intOf]; omega⟩
    · have hli : decide ((k : Int) < (l.length : Int)) = false := by simp; omega
      go_wp2
      go_ret
      exact ⟨rfl, m, rfl⟩
theorem spot_new2 (w : World) (a b c : Int) : (w.alloc (.cells #[.int .i64 a, .int .i64 b, .int .i64 c] 25)).heap[w.heap.size]? = some (.cells #[.int .i64 a, .int .i64 b, .int .i64 c] 25 (0, 0)) ∧ w.heap.size < (w.alloc (.cells #[.int .i64 a, .int .i64 b, .int .i64 c] 25)).heap.size := by
  constructor
  · show (w.heap.push _)[w.heap.size]? = _
    exact Array.getElem?_push_size
  · simp
set_option maxHeartbeats 4000000 in
theorem own_stokens (src : ByteArray) (hs : src.size ≤ maxLen) (w : World) (hlib : Lib3 w) :
    Calls Tryd.prog 3 #[.string src] w fun e w' => e = .returned (.bool true) ∧ Below w.heap.size w w' := by
  have HT : Hid (Calls Tryd.prog 6 #[.string src] w (Told w (tokR src))) := own_tokens _ w hs hlib
  have HU : Hid (∀ W, Calls Tryd.prog 7 #[.string src] W (Told W (tokR src))) := fun W => ref_tokens _ W hs
  unfold maxLen at hs
  clear hlib
  generalize tokR src = R at *
  go_enter Tryd.func3, Tryd.ntmps3
  go_wp2_with fail
  refine HT.out.mono ?_
  intro e w1 ht
  obtain ⟨hb1, ao, ca, rfl, hown1⟩ := told_same ht
  have HU2 : Hid (∀ W, Calls Tryd.prog 7 #[.string src] W fun e w' => Below W.heap.size W w' ∧ ∃ (bo : Option Addr) (cb : Nat), e = .returned (.tuple #[.slice bo (rts R).length cb, .agg #[.int .i64 (rsp R).1, .int .i64 (rsp R).2.1, .int .i64 (rsp R).2.2]]) ∧
    w'.ownsRow W.heap.size 33 4 (.slice bo (rts R).length cb) (rts R).length (tcells (rts R))) := fun W => (HU.out W).mono fun e w' h => told_same h
  clear HT HU ht
  generalize (rts R) = ts at *
  generalize (rsp R).1 = c at *
  generalize (rsp R).2.1 = ln at *
  generalize (rsp R).2.2 = cl at *
  have HB1 : Hid (Below w.heap.size w (w1.alloc (.cells #[.int .i64 c, .int .i64 ln, .int .i64 cl] 25))) := hb1.alloc hb1.size _
  have HO1 : Hid ((w1.alloc (.cells #[.int .i64 c, .int .i64 ln, .int .i64 cl] 25)).ownsRow w.heap.size 33 4 (.slice ao ts.length ca) ts.length (tcells ts)) := row_on hown1 (Nat.le_refl _) ((Below.refl _ _).alloc (Nat.le_refl _) _)
  have HC1 : Hid ((w1.alloc (.cells #[.int .i64 c, .int .i64 ln, .int .i64 cl] 25)).heap[w1.heap.size]? = some (.cells #[.int .i64 c, .int .i64 ln, .int .i64 cl] 25 (0, 0)) ∧ w1.heap.size < (w1.alloc (.cells #[.int .i64 c, .int .i64 ln, .int .i64 cl] 25)).heap.size) := spot_new2 _ _ _ _
  clear hb1 hown1
  go_wp2_with fail
  generalize (w1.alloc (.cells #[.int .i64 c, .int .i64 ln, .int .i64 cl] 25)) = W1 at *
  refine (HU2.out _).mono ?_
  rintro e w2 ⟨hb2, bo, cb, rfl, hown2⟩
  have hB2 : Below w.heap.size w w2 := HB1.out.trans (hb2.mono HB1.out.size)
  have HB2 : Hid (Below w.heap.size w (w2.alloc (.cells #[.int .i64 c, .int .i64 ln, .int .i64 cl] 25))) := hB2.alloc hB2.size _
  have hO2 : w2.ownsRow w.heap.size 33 4 (.slice ao ts.length ca) ts.length (tcells ts) := row_on HO1.out (Nat.le_refl _) hb2
  have HO2 : Hid ((w2.alloc (.cells #[.int .i64 c, .int .i64 ln, .int .i64 cl] 25)).ownsRow w.heap.size 33 4 (.slice ao ts.length ca) ts.length (tcells ts)) := row_on hO2 (Nat.le_refl _) ((Below.refl _ _).alloc (Nat.le_refl _) _)
  have HO3 : Hid ((w2.alloc (.cells #[.int .i64 c, .int .i64 ln, .int .i64 cl] 25)).ownsRow w.heap.size 33 4 (.slice bo ts.length cb) ts.length (tcells ts)) := row_on hown2 HB1.out.size ((Below.refl _ _).alloc (Nat.le_refl _) _)
  have x1 : w2.heap[w1.heap.size]? = some (.cells #[.int .i64 c, .int .i64 ln, .int .i64 cl] 25 (0, 0)) := (hb2.block _ HC1.out.2).trans HC1.out.1
  have hx1 := (Array.getElem?_eq_some_iff.1 x1).1
  have y1 : (w2.alloc (.cells #[.int .i64 c, .int .i64 ln, .int .i64 cl] 25)).heap[w1.heap.size]? = some (.cells #[.int .i64 c, .int .i64 ln, .int .i64 cl] 25 (0, 0)) := (Lib.alloc_old _ _ _ hx1).trans x1
  have y2 := (spot_new2 w2 c ln cl).1
  have HSAME : Hid (Calls Tryd.prog 8 #[.slice ao ts.length ca, .slice bo ts.length cb] (w2.alloc (.cells #[.int .i64 c, .int .i64 ln, .int .i64 cl] 25)) fun e w' => e = .returned (.bool true) ∧ Below w.heap.size w w') := by
    refine (same_tokens ts w.heap.size _ ao bo ca cb HO2.out HO3.out).mono ?_
    rintro e w' ⟨rfl, k, rfl⟩
    exact ⟨rfl, below_dn HB2.out k⟩
  have k0 : (w2.alloc (.cells #[.int .i64 c, .int .i64 ln, .int .i64 cl] 25)).cell? ⟨w1.heap.size, 0, none⟩ = some (.int .i64 c) := by simp only [World.cell?, y1]; rfl
  have k1 : (w2.alloc (.cells #[.int .i64 c, .int .i64 ln, .int .i64 cl] 25)).cell? ⟨w1.heap.size, 1, none⟩ = some (.int .i64 ln) := by simp only [World.cell?, y1]; rfl
  have k2 : (w2.alloc (.cells #[.int .i64 c, .int .i64 ln, .int .i64 cl] 25)).cell? ⟨w1.heap.size, 2, none⟩ = some (.int .i64 cl) := by simp only [World.cell?, y1]; rfl
  have z0 : (w2.alloc (.cells #[.int .i64 c, .int .i64 ln, .int .i64 cl] 25)).cell? ⟨w2.heap.size, 0, none⟩ = some (.int .i64 c) := by simp only [World.cell?, y2]; rfl
  have z1 : (w2.alloc (.cells #[.int .i64 c, .int .i64 ln, .int .i64 cl] 25)).cell? ⟨w2.heap.size, 1, none⟩ = some (.int .i64 ln) := by simp only [World.cell?, y2]; rfl
  have z2 : (w2.alloc (.cells #[.int .i64 c, .int .i64 ln, .int .i64 cl] 25)).cell? ⟨w2.heap.size, 2, none⟩ = some (.int .i64 cl) := by simp only [World.cell?, y2]; rfl
  clear y1 y2
  clear hb2 hown2 hB2 hO2 x1
  go_wp2_with fail
  generalize (w2.alloc (.cells #[.int .i64 c, .int .i64 ln, .int .i64 cl] 25)) = W2 at *
  refine HSAME.out.mono ?_
  rintro e w5 ⟨rfl, hb5⟩
  have HB5 : Hid (Below w.heap.size w w5) := hb5
  clear hb5
  go_wp2
  go_ret
  exact ⟨rfl, HB5.out⟩
end Go.Proofs.YtljdfaoplenloaaDoor
