/- The lines of an outcome. -/
import Derived.Test.YtncjaohiimenaaaDoorOcame
import Derived.Test.YtncjaohiimenaaaDoorRends
import Derived.Test.YtncjaohiimenaaaDoorRref2
namespace Go.Proofs.YtncjaohiimenaaaDoor
open Go.ChangeShapes Go.WideShapes Go.ChangeAt Go.RowKit
set_option maxRecDepth 100000
set_option linter.unusedSimpArgs false
set_option linter.unusedVariables false
theorem box6 {w : World} {b : Nat} {c0 c1 c2 c3 c4 c5 : Value} {t : TypeId} (h : w.heap[b]? = some (.cells #[c0, c1, c2, c3, c4, c5] t (0, 0))) :
    (w.cell? ⟨b, 0, none⟩ = some c0 ∧ w.cell? ⟨b, 1, none⟩ = some c1 ∧ w.cell? ⟨b, 2, none⟩ = some c2 ∧ w.cell? ⟨b, 3, none⟩ = some c3 ∧ w.cell? ⟨b, 4, none⟩ = some c4 ∧ w.cell? ⟨b, 5, none⟩ = some c5) ∧
    (w.frozen? ⟨b, 0, none⟩ = false ∧ w.frozen? ⟨b, 1, none⟩ = false ∧ w.frozen? ⟨b, 2, none⟩ = false ∧ w.frozen? ⟨b, 3, none⟩ = false ∧ w.frozen? ⟨b, 4, none⟩ = false ∧ w.frozen? ⟨b, 5, none⟩ = false) := by
  simp [World.cell?, World.frozen?, h]
theorem lit1 (c : UInt8) : (⟨#[c]⟩ : ByteArray).size = 1 := rfl
theorem txt_le' (n : Int) (h : (Lit.int .i64 n).wf = true) : (txt n).size ≤ 21 := by
  have hb := i64_bounds h
  have := Lib.itoa_length_le n hb.1 hb.2
  show (Lib.itoa n).toArray.size ≤ 21
  rw [List.size_toArray]; exact this
theorem enS_le (e : Int) : (enS e).size ≤ 6 := by
  unfold enS
  split
  · decide
  · have : ∀ k, (endAt k).size ≤ 6 := by
      intro k
      by_cases hk : k < 8
      · have h8 : k = 0 ∨ k = 1 ∨ k = 2 ∨ k = 3 ∨ k = 4 ∨ k = 5 ∨ k = 6 ∨ k = 7 := by omega
        rcases h8 with rfl | rfl | rfl | rfl | rfl | rfl | rfl | rfl <;> decide
      · unfold endAt
        rw [List.getD_eq_getElem?_getD, List.getElem?_eq_none (by show 8 ≤ k; omega)]
        decide
    exact this _
def lineO (o : Ov) : ByteArray := if enE o.e = 0 then o.out ++ o.crash ++ enS o.e ++ ⟨#[32]⟩ ++ txt o.st ++ ⟨#[10]⟩ else ⟨#[]⟩
set_option maxHeartbeats 8000000 in
theorem own_lines (o : Ov) (L : Value) (w : World) (hi : OIn o) (ht : EndTab w) (hp : Pow w) :
    Calls Tryd.prog 18 #[o.val L] w fun r w' => r = .returned (.tuple #[.string (lineO o), .int .i64 (enE o.e)]) ∧ Below w.heap.size w w' := by
  have hb := i64_bounds hi.ws
  have HT0 : Hid (∀ u, Below w.heap.size w u → Calls Tryd.prog 31 #[.int .i64 o.st] u fun e w' => e = .returned (.string (txt o.st)) ∧ Below u.heap.size u w') := fun u hu => text_any o.st hb.1 hb.2 u (hp.below hu)
  have HE0 : Hid (Calls Tryd.prog 14 #[.int .i64 o.e] (w.alloc (.cells #[.int .i64 o.e, .string o.out, .string o.crash, .int .i64 o.st, .int .i64 o.steps, L] 42)) fun e w' => e = .returned (.tuple #[.string (enS o.e), .int .i64 (enE o.e)]) ∧ Below (w.alloc (.cells #[.int .i64 o.e, .string o.out, .string o.crash, .int .i64 o.st, .int .i64 o.steps, L] 42)).heap.size (w.alloc (.cells #[.int .i64 o.e, .string o.out, .string o.crash, .int .i64 o.st, .int .i64 o.steps, L] 42)) w') := (own_ending o.e _ (ht.below show_below)).mono (by rintro e w1 ⟨rfl, rfl⟩; exact ⟨rfl, Below.refl _ _⟩)
  have hEs : (enS o.e).size ≤ 6 := enS_le o.e
  have hXs : (txt o.st).size ≤ 21 := txt_le' o.st hi.ws
  have hos := hi.so
  have hcs := hi.sc
  clear hb
  unfold Ov.val lineO
  generalize enS o.e = E at *
  generalize txt o.st = X at *
  by_cases h0 : enE o.e = 0
  · rw [if_pos h0]
    rw [h0] at HE0 ⊢
    clear h0
    go_enter Tryd.func18, Tryd.ntmps18
    go_wp2_with fail
    refine Calls.mono HE0.out ?_
    rintro e w1 ⟨rfl, hb1⟩
    have HBX : Hid (∀ u, Below w1.heap.size w1 u → u.cell? ⟨w.heap.size, 0, none⟩ = some (.int .i64 o.e) ∧ u.cell? ⟨w.heap.size, 1, none⟩ = some (.string o.out) ∧ u.cell? ⟨w.heap.size, 2, none⟩ = some (.string o.crash) ∧ u.cell? ⟨w.heap.size, 3, none⟩ = some (.int .i64 o.st) ∧ u.cell? ⟨w.heap.size, 4, none⟩ = some (.int .i64 o.steps) ∧ u.cell? ⟨w.heap.size, 5, none⟩ = some L) := fun u hu =>
      (box6 (box_stays (hb1.trans (hu.mono hb1.size)))).1
    have HB1 : Hid (Below w.heap.size w w1) := below_up hb1
    have HT : Hid (∀ u, Below w1.heap.size w1 u → Calls Tryd.prog 31 #[.int .i64 o.st] u fun e w' => e = .returned (.string X) ∧ Below u.heap.size u w') := fun u hu => HT0.out u (HB1.out.trans (hu.mono HB1.out.size))
    clear hb1 HE0 HT0
    go_wp2_with fail
    refine wp_grow [isV (.pointer (some ⟨w.heap.size, 1, none⟩)), isV (.string o.out), isV (.pointer (some ⟨w.heap.size, 2, none⟩)), isV (.string o.crash), isV (.string (o.out ++ o.crash)), isV (.string E), isV (.string (o.out ++ o.crash ++ E)), isV (.string (o.out ++ o.crash ++ E ++ ⟨#[32]⟩)), isV (.pointer (some ⟨w.heap.size, 3, none⟩)), isV (.int .i64 o.st), isV (.string X), isV (.string (o.out ++ o.crash ++ E ++ ⟨#[32]⟩ ++ X)), isV (.string (o.out ++ o.crash ++ E ++ ⟨#[32]⟩ ++ X ++ ⟨#[10]⟩)), isV (.string (o.out ++ o.crash ++ E ++ ⟨#[32]⟩ ++ X ++ ⟨#[10]⟩)), isV (.int .i64 0)]
      ⟨stab_is _, stab_is _, stab_is _, stab_is _, stab_is _, stab_is _, stab_is _, stab_is _, stab_is _, stab_is _, stab_is _, stab_is _, stab_is _, stab_is _, stab_is _, trivial⟩ (by kernel_rfl) (by kernel_rfl) (by kernel_rfl) ?_ ?_
    · refine stepsOK_cons (fun f u hG hd K hK => ?_) (stepsOK_cons (fun f u hG hd K hK => ?_) (stepsOK_cons (fun f u hG hd K hK => ?_) (stepsOK_cons (fun f u hG hd K hK => ?_) (stepsOK_cons (fun f u hG hd K hK => ?_) (stepsOK_cons (fun f u hG hd K hK => ?_) (stepsOK_cons (fun f u hG hd K hK => ?_) (stepsOK_cons (fun f u hG hd K hK => ?_) (stepsOK_cons (fun f u hG hd K hK => ?_) (stepsOK_cons (fun f u hG hd K hK => ?_) (stepsOK_cons (fun f u hG hd K hK => ?_) (stepsOK_cons (fun f u hG hd K hK => ?_) (stepsOK_cons (fun f u hG hd K hK => ?_) (stepsOK_cons (fun f u hG hd K hK => ?_) (stepsOK_cons (fun f u hG hd K hK => ?_) stepsOK_nil))))))))))))))
      · refine wanted_on rfl ?_
        simp only [putAll, Act.put, List.setIfInBounds_toArray, List.set_cons_zero, List.set_cons_succ] at hK ⊢
        go_simp
        exact hK _ _ _ rfl hG (Below.refl _ _) rfl
      · have e0 : f 0 = (.pointer (some ⟨w.heap.size, 1, none⟩)) := hd 0 (by kernel_rfl)
        obtain ⟨q0, q1, q2, q3, q4, q5⟩ := HBX.out u hG
        refine wanted_on rfl ?_
        simp only [putAll, Act.put, List.setIfInBounds_toArray, List.set_cons_zero, List.set_cons_succ, e0] at hK ⊢
        go_simp
        exact hK _ _ _ rfl hG (Below.refl _ _) rfl
      · refine wanted_on rfl ?_
        simp only [putAll, Act.put, List.setIfInBounds_toArray, List.set_cons_zero, List.set_cons_succ] at hK ⊢
        go_simp
        exact hK _ _ _ rfl hG (Below.refl _ _) rfl
      · have e2 : f 2 = (.pointer (some ⟨w.heap.size, 2, none⟩)) := hd 2 (by kernel_rfl)
        obtain ⟨q0, q1, q2, q3, q4, q5⟩ := HBX.out u hG
        refine wanted_on rfl ?_
        simp only [putAll, Act.put, List.setIfInBounds_toArray, List.set_cons_zero, List.set_cons_succ, e2] at hK ⊢
        go_simp
        exact hK _ _ _ rfl hG (Below.refl _ _) rfl
      · have e1 : f 1 = (.string o.out) := hd 1 (by kernel_rfl)
        have e3 : f 3 = (.string o.crash) := hd 3 (by kernel_rfl)
        refine wanted_on rfl ?_
        simp only [putAll, Act.put, List.setIfInBounds_toArray, List.set_cons_zero, List.set_cons_succ, e1, e3] at hK ⊢
        go_simp
        rw [if_neg (by first | omega | (simp only [ByteArray.size_append, lit1]; omega))]
        go_simp
        exact hK _ _ _ rfl hG (Below.refl _ _) rfl
      · refine wanted_on rfl ?_
        simp only [putAll, Act.put, List.setIfInBounds_toArray, List.set_cons_zero, List.set_cons_succ] at hK ⊢
        go_simp
        exact hK _ _ _ rfl hG (Below.refl _ _) rfl
      · have e4 : f 4 = (.string (o.out ++ o.crash)) := hd 4 (by kernel_rfl)
        have e5 : f 5 = (.string E) := hd 5 (by kernel_rfl)
        refine wanted_on rfl ?_
        simp only [putAll, Act.put, List.setIfInBounds_toArray, List.set_cons_zero, List.set_cons_succ, e4, e5] at hK ⊢
        go_simp
        rw [if_neg (by first | omega | (simp only [ByteArray.size_append, lit1]; omega))]
        go_simp
        exact hK _ _ _ rfl hG (Below.refl _ _) rfl
      · have e6 : f 6 = (.string (o.out ++ o.crash ++ E)) := hd 6 (by kernel_rfl)
        refine wanted_on rfl ?_
        simp only [putAll, Act.put, List.setIfInBounds_toArray, List.set_cons_zero, List.set_cons_succ, e6] at hK ⊢
        go_simp
        rw [if_neg (by first | omega | (simp only [ByteArray.size_append, lit1]; omega))]
        go_simp
        exact hK _ _ _ rfl hG (Below.refl _ _) rfl
      · refine wanted_on rfl ?_
        simp only [putAll, Act.put, List.setIfInBounds_toArray, List.set_cons_zero, List.set_cons_succ] at hK ⊢
        go_simp
        exact hK _ _ _ rfl hG (Below.refl _ _) rfl
      · have e8 : f 8 = (.pointer (some ⟨w.heap.size, 3, none⟩)) := hd 8 (by kernel_rfl)
        obtain ⟨q0, q1, q2, q3, q4, q5⟩ := HBX.out u hG
        refine wanted_on rfl ?_
        simp only [putAll, Act.put, List.setIfInBounds_toArray, List.set_cons_zero, List.set_cons_succ, e8] at hK ⊢
        go_simp
        exact hK _ _ _ rfl hG (Below.refl _ _) rfl
      · have e9 : f 9 = (.int .i64 o.st) := hd 9 (by kernel_rfl)
        refine wanted_on rfl ?_
        simp only [putAll, Act.put, List.setIfInBounds_toArray, List.set_cons_zero, List.set_cons_succ, e9] at hK ⊢
        go_simp
        refine (HT.out u hG).mono ?_
        rintro e u1 ⟨rfl, hb⟩
        exact hK _ _ _ rfl (hG.trans (hb.mono hG.size)) hb rfl
      · have e7 : f 7 = (.string (o.out ++ o.crash ++ E ++ ⟨#[32]⟩)) := hd 7 (by kernel_rfl)
        have e10 : f 10 = (.string X) := hd 10 (by kernel_rfl)
        refine wanted_on rfl ?_
        simp only [putAll, Act.put, List.setIfInBounds_toArray, List.set_cons_zero, List.set_cons_succ, e7, e10] at hK ⊢
        go_simp
        rw [if_neg (by first | omega | (simp only [ByteArray.size_append, lit1]; omega))]
        go_simp
        exact hK _ _ _ rfl hG (Below.refl _ _) rfl
      · have e11 : f 11 = (.string (o.out ++ o.crash ++ E ++ ⟨#[32]⟩ ++ X)) := hd 11 (by kernel_rfl)
        refine wanted_on rfl ?_
        simp only [putAll, Act.put, List.setIfInBounds_toArray, List.set_cons_zero, List.set_cons_succ, e11] at hK ⊢
        go_simp
        rw [if_neg (by first | omega | (simp only [ByteArray.size_append, lit1]; omega))]
        go_simp
        exact hK _ _ _ rfl hG (Below.refl _ _) rfl
      · have e12 : f 12 = (.string (o.out ++ o.crash ++ E ++ ⟨#[32]⟩ ++ X ++ ⟨#[10]⟩)) := hd 12 (by kernel_rfl)
        refine wanted_on rfl ?_
        simp only [putAll, Act.put, List.setIfInBounds_toArray, List.set_cons_zero, List.set_cons_succ, e12] at hK ⊢
        go_simp
        exact hK _ _ _ rfl hG (Below.refl _ _) rfl
      · refine wanted_on rfl ?_
        simp only [putAll, Act.put, List.setIfInBounds_toArray, List.set_cons_zero, List.set_cons_succ] at hK ⊢
        go_simp
        exact hK _ _ _ rfl hG (Below.refl _ _) rfl
    · intro f u hG hf
      have e13 : f 13 = .string (o.out ++ o.crash ++ E ++ ⟨#[32]⟩ ++ X ++ ⟨#[10]⟩) := hf 13 (by decide)
      have e14 : f 14 = .int .i64 0 := hf 14 (by decide)
      have HBU : Hid (Below w.heap.size w u) := HB1.out.trans (hG.mono HB1.out.size)
      simp only [putAll, Act.put, List.setIfInBounds_toArray, List.set_cons_zero, List.set_cons_succ, e13, e14]
      clear hf hG e13 e14
      go_wp2_with fail
      go_ret2
      exact ⟨rfl, HBU.out⟩
  · rw [if_neg h0]
    generalize enE o.e = z at *
    have hz : (z != 0) = true := by simpa using h0
    clear h0 HT0
    go_enter Tryd.func18, Tryd.ntmps18
    go_wp2_with fail
    refine Calls.mono HE0.out ?_
    rintro e w1 ⟨rfl, hb1⟩
    go_wp2_with fail
    go_ret2
    exact ⟨rfl, below_up hb1⟩
set_option maxHeartbeats 8000000 in
theorem ref_lines (o : Ov) (L : Value) (w : World) (hi : OIn o) :
    Calls Tryd.prog 19 #[o.val L] w fun r w' => r = .returned (.tuple #[.string (lineO o), .int .i64 (enE o.e)]) ∧ Below w.heap.size w w' := by
  have hb := i64_bounds hi.ws
  have HT0 : Hid (∀ u, Below w.heap.size w u → Calls Tryd.prog 25 #[.int .i64 o.st] u fun e w' => e = .returned (.string (txt o.st)) ∧ Below u.heap.size u w') := fun u hu => decimal_any o.st hb.1 hb.2 u
  have HE0 : Hid (Calls Tryd.prog 15 #[.int .i64 o.e] (w.alloc (.cells #[.int .i64 o.e, .string o.out, .string o.crash, .int .i64 o.st, .int .i64 o.steps, L] 42)) fun e w' => e = .returned (.tuple #[.string (enS o.e), .int .i64 (enE o.e)]) ∧ Below (w.alloc (.cells #[.int .i64 o.e, .string o.out, .string o.crash, .int .i64 o.st, .int .i64 o.steps, L] 42)).heap.size (w.alloc (.cells #[.int .i64 o.e, .string o.out, .string o.crash, .int .i64 o.st, .int .i64 o.steps, L] 42)) w') := ref_ending o.e _
  have hEs : (enS o.e).size ≤ 6 := enS_le o.e
  have hXs : (txt o.st).size ≤ 21 := txt_le' o.st hi.ws
  have hos := hi.so
  have hcs := hi.sc
  clear hb
  unfold Ov.val lineO
  generalize enS o.e = E at *
  generalize txt o.st = X at *
  by_cases h0 : enE o.e = 0
  · rw [if_pos h0]
    rw [h0] at HE0 ⊢
    clear h0
    go_enter Tryd.func19, Tryd.ntmps19
    go_wp2_with fail
    refine Calls.mono HE0.out ?_
    rintro e w1 ⟨rfl, hb1⟩
    have HBX : Hid (∀ u, Below w1.heap.size w1 u → u.cell? ⟨w.heap.size, 0, none⟩ = some (.int .i64 o.e) ∧ u.cell? ⟨w.heap.size, 1, none⟩ = some (.string o.out) ∧ u.cell? ⟨w.heap.size, 2, none⟩ = some (.string o.crash) ∧ u.cell? ⟨w.heap.size, 3, none⟩ = some (.int .i64 o.st) ∧ u.cell? ⟨w.heap.size, 4, none⟩ = some (.int .i64 o.steps) ∧ u.cell? ⟨w.heap.size, 5, none⟩ = some L) := fun u hu =>
      (box6 (box_stays (hb1.trans (hu.mono hb1.size)))).1
    have HB1 : Hid (Below w.heap.size w w1) := below_up hb1
    have HT : Hid (∀ u, Below w1.heap.size w1 u → Calls Tryd.prog 25 #[.int .i64 o.st] u fun e w' => e = .returned (.string X) ∧ Below u.heap.size u w') := fun u hu => HT0.out u (HB1.out.trans (hu.mono HB1.out.size))
    clear hb1 HE0 HT0
    go_wp2_with fail
    refine wp_grow [isV (.pointer (some ⟨w.heap.size, 1, none⟩)), isV (.string o.out), isV (.pointer (some ⟨w.heap.size, 2, none⟩)), isV (.string o.crash), isV (.string (o.out ++ o.crash)), isV (.string E), isV (.string (o.out ++ o.crash ++ E)), isV (.string (o.out ++ o.crash ++ E ++ ⟨#[32]⟩)), isV (.pointer (some ⟨w.heap.size, 3, none⟩)), isV (.int .i64 o.st), isV (.string X), isV (.string (o.out ++ o.crash ++ E ++ ⟨#[32]⟩ ++ X)), isV (.string (o.out ++ o.crash ++ E ++ ⟨#[32]⟩ ++ X ++ ⟨#[10]⟩)), isV (.string (o.out ++ o.crash ++ E ++ ⟨#[32]⟩ ++ X ++ ⟨#[10]⟩)), isV (.int .i64 0)]
      ⟨stab_is _, stab_is _, stab_is _, stab_is _, stab_is _, stab_is _, stab_is _, stab_is _, stab_is _, stab_is _, stab_is _, stab_is _, stab_is _, stab_is _, stab_is _, trivial⟩ (by kernel_rfl) (by kernel_rfl) (by kernel_rfl) ?_ ?_
    · refine stepsOK_cons (fun f u hG hd K hK => ?_) (stepsOK_cons (fun f u hG hd K hK => ?_) (stepsOK_cons (fun f u hG hd K hK => ?_) (stepsOK_cons (fun f u hG hd K hK => ?_) (stepsOK_cons (fun f u hG hd K hK => ?_) (stepsOK_cons (fun f u hG hd K hK => ?_) (stepsOK_cons (fun f u hG hd K hK => ?_) (stepsOK_cons (fun f u hG hd K hK => ?_) (stepsOK_cons (fun f u hG hd K hK => ?_) (stepsOK_cons (fun f u hG hd K hK => ?_) (stepsOK_cons (fun f u hG hd K hK => ?_) (stepsOK_cons (fun f u hG hd K hK => ?_) (stepsOK_cons (fun f u hG hd K hK => ?_) (stepsOK_cons (fun f u hG hd K hK => ?_) (stepsOK_cons (fun f u hG hd K hK => ?_) stepsOK_nil))))))))))))))
      · refine wanted_on rfl ?_
        simp only [putAll, Act.put, List.setIfInBounds_toArray, List.set_cons_zero, List.set_cons_succ] at hK ⊢
        go_simp
        exact hK _ _ _ rfl hG (Below.refl _ _) rfl
      · have e0 : f 0 = (.pointer (some ⟨w.heap.size, 1, none⟩)) := hd 0 (by kernel_rfl)
        obtain ⟨q0, q1, q2, q3, q4, q5⟩ := HBX.out u hG
        refine wanted_on rfl ?_
        simp only [putAll, Act.put, List.setIfInBounds_toArray, List.set_cons_zero, List.set_cons_succ, e0] at hK ⊢
        go_simp
        exact hK _ _ _ rfl hG (Below.refl _ _) rfl
      · refine wanted_on rfl ?_
        simp only [putAll, Act.put, List.setIfInBounds_toArray, List.set_cons_zero, List.set_cons_succ] at hK ⊢
        go_simp
        exact hK _ _ _ rfl hG (Below.refl _ _) rfl
      · have e2 : f 2 = (.pointer (some ⟨w.heap.size, 2, none⟩)) := hd 2 (by kernel_rfl)
        obtain ⟨q0, q1, q2, q3, q4, q5⟩ := HBX.out u hG
        refine wanted_on rfl ?_
        simp only [putAll, Act.put, List.setIfInBounds_toArray, List.set_cons_zero, List.set_cons_succ, e2] at hK ⊢
        go_simp
        exact hK _ _ _ rfl hG (Below.refl _ _) rfl
      · have e1 : f 1 = (.string o.out) := hd 1 (by kernel_rfl)
        have e3 : f 3 = (.string o.crash) := hd 3 (by kernel_rfl)
        refine wanted_on rfl ?_
        simp only [putAll, Act.put, List.setIfInBounds_toArray, List.set_cons_zero, List.set_cons_succ, e1, e3] at hK ⊢
        go_simp
        rw [if_neg (by first | omega | (simp only [ByteArray.size_append, lit1]; omega))]
        go_simp
        exact hK _ _ _ rfl hG (Below.refl _ _) rfl
      · refine wanted_on rfl ?_
        simp only [putAll, Act.put, List.setIfInBounds_toArray, List.set_cons_zero, List.set_cons_succ] at hK ⊢
        go_simp
        exact hK _ _ _ rfl hG (Below.refl _ _) rfl
      · have e4 : f 4 = (.string (o.out ++ o.crash)) := hd 4 (by kernel_rfl)
        have e5 : f 5 = (.string E) := hd 5 (by kernel_rfl)
        refine wanted_on rfl ?_
        simp only [putAll, Act.put, List.setIfInBounds_toArray, List.set_cons_zero, List.set_cons_succ, e4, e5] at hK ⊢
        go_simp
        rw [if_neg (by first | omega | (simp only [ByteArray.size_append, lit1]; omega))]
        go_simp
        exact hK _ _ _ rfl hG (Below.refl _ _) rfl
      · have e6 : f 6 = (.string (o.out ++ o.crash ++ E)) := hd 6 (by kernel_rfl)
        refine wanted_on rfl ?_
        simp only [putAll, Act.put, List.setIfInBounds_toArray, List.set_cons_zero, List.set_cons_succ, e6] at hK ⊢
        go_simp
        rw [if_neg (by first | omega | (simp only [ByteArray.size_append, lit1]; omega))]
        go_simp
        exact hK _ _ _ rfl hG (Below.refl _ _) rfl
      · refine wanted_on rfl ?_
        simp only [putAll, Act.put, List.setIfInBounds_toArray, List.set_cons_zero, List.set_cons_succ] at hK ⊢
        go_simp
        exact hK _ _ _ rfl hG (Below.refl _ _) rfl
      · have e8 : f 8 = (.pointer (some ⟨w.heap.size, 3, none⟩)) := hd 8 (by kernel_rfl)
        obtain ⟨q0, q1, q2, q3, q4, q5⟩ := HBX.out u hG
        refine wanted_on rfl ?_
        simp only [putAll, Act.put, List.setIfInBounds_toArray, List.set_cons_zero, List.set_cons_succ, e8] at hK ⊢
        go_simp
        exact hK _ _ _ rfl hG (Below.refl _ _) rfl
      · have e9 : f 9 = (.int .i64 o.st) := hd 9 (by kernel_rfl)
        refine wanted_on rfl ?_
        simp only [putAll, Act.put, List.setIfInBounds_toArray, List.set_cons_zero, List.set_cons_succ, e9] at hK ⊢
        go_simp
        refine (HT.out u hG).mono ?_
        rintro e u1 ⟨rfl, hb⟩
        exact hK _ _ _ rfl (hG.trans (hb.mono hG.size)) hb rfl
      · have e7 : f 7 = (.string (o.out ++ o.crash ++ E ++ ⟨#[32]⟩)) := hd 7 (by kernel_rfl)
        have e10 : f 10 = (.string X) := hd 10 (by kernel_rfl)
        refine wanted_on rfl ?_
        simp only [putAll, Act.put, List.setIfInBounds_toArray, List.set_cons_zero, List.set_cons_succ, e7, e10] at hK ⊢
        go_simp
        rw [if_neg (by first | omega | (simp only [ByteArray.size_append, lit1]; omega))]
        go_simp
        exact hK _ _ _ rfl hG (Below.refl _ _) rfl
      · have e11 : f 11 = (.string (o.out ++ o.crash ++ E ++ ⟨#[32]⟩ ++ X)) := hd 11 (by kernel_rfl)
        refine wanted_on rfl ?_
        simp only [putAll, Act.put, List.setIfInBounds_toArray, List.set_cons_zero, List.set_cons_succ, e11] at hK ⊢
        go_simp
        rw [if_neg (by first | omega | (simp only [ByteArray.size_append, lit1]; omega))]
        go_simp
        exact hK _ _ _ rfl hG (Below.refl _ _) rfl
      · have e12 : f 12 = (.string (o.out ++ o.crash ++ E ++ ⟨#[32]⟩ ++ X ++ ⟨#[10]⟩)) := hd 12 (by kernel_rfl)
        refine wanted_on rfl ?_
        simp only [putAll, Act.put, List.setIfInBounds_toArray, List.set_cons_zero, List.set_cons_succ, e12] at hK ⊢
        go_simp
        exact hK _ _ _ rfl hG (Below.refl _ _) rfl
      · refine wanted_on rfl ?_
        simp only [putAll, Act.put, List.setIfInBounds_toArray, List.set_cons_zero, List.set_cons_succ] at hK ⊢
        go_simp
        exact hK _ _ _ rfl hG (Below.refl _ _) rfl
    · intro f u hG hf
      have e13 : f 13 = .string (o.out ++ o.crash ++ E ++ ⟨#[32]⟩ ++ X ++ ⟨#[10]⟩) := hf 13 (by decide)
      have e14 : f 14 = .int .i64 0 := hf 14 (by decide)
      have HBU : Hid (Below w.heap.size w u) := HB1.out.trans (hG.mono HB1.out.size)
      simp only [putAll, Act.put, List.setIfInBounds_toArray, List.set_cons_zero, List.set_cons_succ, e13, e14]
      clear hf hG e13 e14
      go_wp2_with fail
      go_ret2
      exact ⟨rfl, HBU.out⟩
  · rw [if_neg h0]
    generalize enE o.e = z at *
    have hz : (z != 0) = true := by simpa using h0
    clear h0 HT0
    go_enter Tryd.func19, Tryd.ntmps19
    go_wp2_with fail
    refine Calls.mono HE0.out ?_
    rintro e w1 ⟨rfl, hb1⟩
    go_wp2_with fail
    go_ret2
    exact ⟨rfl, below_up hb1⟩
end Go.Proofs.YtncjaohiimenaaaDoor
