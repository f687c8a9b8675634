/- What panicroadref.FaultText answers. -/
import Derived.Test.YtjmklmcnlieplaaDoorFtext
import Derived.Test.YtjmklmcnlieplaaDoorBig6
import Derived.Test.YtjmklmcnlieplaaDoorFbox
import Derived.Test.YtjmklmcnlieplaaDoorSteady4
namespace Go.Proofs.YtjmklmcnlieplaaDoor
open Go.ChangeShapes Go.WideShapes Go.ChangeAt Go.RowKit
set_option maxRecDepth 100000
set_option linter.unusedSimpArgs false
set_option linter.unusedVariables false
theorem decimal_any (n : Int) (h : I64 n) (w : World) :
    Calls Tryd.prog 11 #[.int .i64 n] w fun e w' => e = .returned (.string (txt n)) ∧ Below w.heap.size w w' := by
  obtain ⟨h0, h1⟩ := h
  go_enter Tryd.func11, Tryd.ntmps11
  go_wp2_with fail
  refine (whole_any n h0 h1 w).mono ?_
  rintro e w1 ⟨b, rfl, -, hb, hbel⟩
  have HB : Hid (Big w1 b n) := hb
  clear hb
  go_wp2_with fail
  refine (string_any b n w1 HB.out (by omega) (by omega)).mono ?_
  rintro e w2 ⟨rfl, hbel2⟩
  go_wp2
  go_ret
  exact ⟨rfl, hbel.trans (hbel2.mono hbel.size)⟩
theorem said0 (a b : Int) : (⟨(saidL (0, a, b)).toArray⟩ : ByteArray) = ⟨#[105, 110, 100, 101, 120, 32, 111, 117, 116, 32, 111, 102, 32, 114, 97, 110, 103, 101, 32, 91]⟩ ++ txt a ++ ⟨#[93, 32, 119, 105, 116, 104, 32, 108, 101, 110, 103, 116, 104, 32]⟩ ++ txt b := by
  apply ByteArray.ext; apply Array.ext'
  simp [saidL, fillL, numAt, formP, ByteArray.data_append]
theorem said8 (a b : Int) : (⟨(saidL (8, a, b)).toArray⟩ : ByteArray) = ⟨#[108, 101, 110, 103, 116, 104, 32]⟩ ++ txt a ++ ⟨#[32, 105, 115, 32, 97, 98, 111, 118, 101, 32]⟩ ++ txt b := by
  apply ByteArray.ext; apply Array.ext'
  simp [saidL, fillL, numAt, formP, ByteArray.data_append]
theorem said4 (a b : Int) : (⟨(saidL (4, a, b)).toArray⟩ : ByteArray) = ⟨#[115, 108, 105, 99, 101, 32, 98, 111, 117, 110, 100, 115, 32, 111, 117, 116, 32, 111, 102, 32, 114, 97, 110, 103, 101, 32, 91]⟩ ++ (⟨#[58]⟩ ++ txt a ++ ⟨#[93, 32, 119, 105, 116, 104, 32, 108, 101, 110, 103, 116, 104, 32]⟩ ++ txt b) := by
  apply ByteArray.ext; apply Array.ext'
  simp [saidL, fillL, numAt, formP, ByteArray.data_append]
theorem said5 (a b : Int) : (⟨(saidL (5, a, b)).toArray⟩ : ByteArray) = ⟨#[115, 108, 105, 99, 101, 32, 98, 111, 117, 110, 100, 115, 32, 111, 117, 116, 32, 111, 102, 32, 114, 97, 110, 103, 101, 32, 91]⟩ ++ (txt a ++ ⟨#[58]⟩ ++ txt b ++ ⟨#[93]⟩) := by
  apply ByteArray.ext; apply Array.ext'
  simp [saidL, fillL, numAt, formP, ByteArray.data_append]
theorem said6 (a b : Int) : (⟨(saidL (6, a, b)).toArray⟩ : ByteArray) = ⟨#[115, 108, 105, 99, 101, 32, 98, 111, 117, 110, 100, 115, 32, 111, 117, 116, 32, 111, 102, 32, 114, 97, 110, 103, 101, 32, 91]⟩ ++ (txt a ++ ⟨#[58, 93]⟩) := by
  apply ByteArray.ext; apply Array.ext'
  simp [saidL, fillL, numAt, formP, ByteArray.data_append]
theorem said1 : (⟨(saidL (1, 0, 0)).toArray⟩ : ByteArray) = ⟨#[105, 110, 116, 101, 103, 101, 114, 32, 100, 105, 118, 105, 100, 101, 32, 98, 121, 32, 122, 101, 114, 111]⟩ := by
  apply ByteArray.ext; apply Array.ext'
  simp [saidL, fillL, numAt, formP]
theorem said2 : (⟨(saidL (2, 0, 0)).toArray⟩ : ByteArray) = ⟨#[110, 101, 103, 97, 116, 105, 118, 101, 32, 115, 104, 105, 102, 116, 32, 97, 109, 111, 117, 110, 116]⟩ := by
  apply ByteArray.ext; apply Array.ext'
  simp [saidL, fillL, numAt, formP]
theorem said3 : (⟨(saidL (3, 0, 0)).toArray⟩ : ByteArray) = ⟨#[105, 110, 118, 97, 108, 105, 100, 32, 109, 101, 109, 111, 114, 121, 32, 97, 100, 100, 114, 101, 115, 115, 32, 111, 114, 32, 110, 105, 108, 32, 112, 111, 105, 110, 116, 101, 114, 32, 100, 101, 114, 101, 102, 101, 114, 101, 110, 99, 101]⟩ := by
  apply ByteArray.ext; apply Array.ext'
  simp [saidL, fillL, numAt, formP]
theorem said7 : (⟨(saidL (7, 0, 0)).toArray⟩ : ByteArray) = ⟨#[110, 111, 32, 105, 110, 116, 32, 105, 110, 32, 97, 110, 121]⟩ := by
  apply ByteArray.ext; apply Array.ext'
  simp [saidL, fillL, numAt, formP]
theorem said9 : (⟨(saidL (9, 0, 0)).toArray⟩ : ByteArray) = ⟨#[112, 97, 110, 105, 99, 32, 99, 97, 108, 108, 101, 100, 32, 119, 105, 116, 104, 32, 110, 105, 108]⟩ := by
  apply ByteArray.ext; apply Array.ext'
  simp [saidL, fillL, numAt, formP]
set_option maxHeartbeats 8000000 in
theorem ref_text (x : Fl) (hx : FIn x) (w : World) : Calls Tryd.prog 6 #[fv x] w fun e w' => e = .returned (.string (textF x)) ∧ Below w.heap.size w w' := by
  obtain ⟨k, a, b, c⟩ := x
  obtain ⟨-, ha, hb, hc⟩ := hx
  dsimp only at ha hb hc
  have za := txt_short a ha.1 ha.2
  have zb := txt_short b hb.1 hb.2
  have zc := txt_short c hc.1 hc.2
  unfold fv
  dsimp only
  by_cases h1 : k = 1
  · subst h1
    have e : textF ⟨1, a, b, c⟩ = leadB ++ (⟨#[105, 110, 100, 101, 120, 32, 111, 117, 116, 32, 111, 102, 32, 114, 97, 110, 103, 101, 32, 91]⟩ ++ txt a ++ ⟨#[93, 32, 119, 105, 116, 104, 32, 108, 101, 110, 103, 116, 104, 32]⟩ ++ txt b) := by
      have e0 : toldF ⟨1, a, b, c⟩ = (0, a, b) := by
        unfold toldF toldB; dsimp only; repeat' split
        all_goals first | rfl | (exfalso; omega)
      unfold textF; rw [e0, if_neg (by simp), said0]
    rw [e]; clear e; unfold leadB
    go_enter Tryd.func6, Tryd.ntmps6
    go_wp2_with fail
    refine wp_grow [isV (.pointer (some ⟨w.heap.size, 1, none⟩)), isV (.int .i64 a), isV (.string (txt a)), isV (.string (⟨#[105, 110, 100, 101, 120, 32, 111, 117, 116, 32, 111, 102, 32, 114, 97, 110, 103, 101, 32, 91]⟩ ++ txt a)), isV (.string (⟨#[105, 110, 100, 101, 120, 32, 111, 117, 116, 32, 111, 102, 32, 114, 97, 110, 103, 101, 32, 91]⟩ ++ txt a ++ ⟨#[93, 32, 119, 105, 116, 104, 32, 108, 101, 110, 103, 116, 104, 32]⟩)), isV (.pointer (some ⟨w.heap.size, 2, none⟩)), isV (.int .i64 b), isV (.string (txt b)), isV (.string (⟨#[105, 110, 100, 101, 120, 32, 111, 117, 116, 32, 111, 102, 32, 114, 97, 110, 103, 101, 32, 91]⟩ ++ txt a ++ ⟨#[93, 32, 119, 105, 116, 104, 32, 108, 101, 110, 103, 116, 104, 32]⟩ ++ txt b)), isV (.string (⟨#[105, 110, 100, 101, 120, 32, 111, 117, 116, 32, 111, 102, 32, 114, 97, 110, 103, 101, 32, 91]⟩ ++ txt a ++ ⟨#[93, 32, 119, 105, 116, 104, 32, 108, 101, 110, 103, 116, 104, 32]⟩ ++ txt b))]
      ⟨stab_is _, stab_is _, stab_is _, stab_is _, stab_is _, stab_is _, stab_is _, stab_is _, stab_is _, stab_is _, trivial⟩ (by kernel_rfl) (by kernel_rfl) (by kernel_rfl) ?_ ?_
    · refine stepsOK_cons (fun f u hG hd K hK => ?_) (stepsOK_cons (fun f u hG hd K hK => ?_) (stepsOK_cons (fun f u hG hd K hK => ?_) (stepsOK_cons (fun f u hG hd K hK => ?_) (stepsOK_cons (fun f u hG hd K hK => ?_) (stepsOK_cons (fun f u hG hd K hK => ?_) (stepsOK_cons (fun f u hG hd K hK => ?_) (stepsOK_cons (fun f u hG hd K hK => ?_) (stepsOK_cons (fun f u hG hd K hK => ?_) (stepsOK_cons (fun f u hG hd K hK => ?_) stepsOK_nil)))))))))
      · refine wanted_on rfl ?_
        simp only [putAll, Act.put, List.setIfInBounds_toArray, List.set_cons_zero, List.set_cons_succ] at hK ⊢
        go_simp
        exact hK _ _ _ rfl hG (Below.refl _ _) rfl
      · have e0 : f 0 = (.pointer (some ⟨w.heap.size, 1, none⟩)) := hd 0 (by kernel_rfl)
        obtain ⟨⟨c0, c1, c2, c3⟩, _⟩ := box4 (box_stays hG)
        refine wanted_on rfl ?_
        simp only [putAll, Act.put, List.setIfInBounds_toArray, List.set_cons_zero, List.set_cons_succ, e0] at hK ⊢
        go_simp
        exact hK _ _ _ rfl hG (Below.refl _ _) rfl
      · have e1 : f 1 = (.int .i64 a) := hd 1 (by kernel_rfl)
        refine wanted_on rfl ?_
        simp only [putAll, Act.put, List.setIfInBounds_toArray, List.set_cons_zero, List.set_cons_succ, e1] at hK ⊢
        go_simp
        refine (decimal_any a ha u).mono ?_
        rintro e u1 ⟨rfl, hb⟩
        exact hK _ _ _ rfl (hG.trans (hb.mono hG.size)) hb rfl
      · have e2 : f 2 = (.string (txt a)) := hd 2 (by kernel_rfl)
        refine wanted_on rfl ?_
        simp only [putAll, Act.put, List.setIfInBounds_toArray, List.set_cons_zero, List.set_cons_succ, e2] at hK ⊢
        go_simp
        try rw [if_neg (by first | omega | (simp [ByteArray.size_append]; omega))]
        exact hK _ _ _ rfl hG (Below.refl _ _) rfl
      · have e3 : f 3 = (.string (⟨#[105, 110, 100, 101, 120, 32, 111, 117, 116, 32, 111, 102, 32, 114, 97, 110, 103, 101, 32, 91]⟩ ++ txt a)) := hd 3 (by kernel_rfl)
        refine wanted_on rfl ?_
        simp only [putAll, Act.put, List.setIfInBounds_toArray, List.set_cons_zero, List.set_cons_succ, e3] at hK ⊢
        go_simp
        try rw [if_neg (by first | omega | (simp [ByteArray.size_append]; omega))]
        exact hK _ _ _ rfl hG (Below.refl _ _) rfl
      · refine wanted_on rfl ?_
        simp only [putAll, Act.put, List.setIfInBounds_toArray, List.set_cons_zero, List.set_cons_succ] at hK ⊢
        go_simp
        exact hK _ _ _ rfl hG (Below.refl _ _) rfl
      · have e5 : f 5 = (.pointer (some ⟨w.heap.size, 2, none⟩)) := hd 5 (by kernel_rfl)
        obtain ⟨⟨c0, c1, c2, c3⟩, _⟩ := box4 (box_stays hG)
        refine wanted_on rfl ?_
        simp only [putAll, Act.put, List.setIfInBounds_toArray, List.set_cons_zero, List.set_cons_succ, e5] at hK ⊢
        go_simp
        exact hK _ _ _ rfl hG (Below.refl _ _) rfl
      · have e6 : f 6 = (.int .i64 b) := hd 6 (by kernel_rfl)
        refine wanted_on rfl ?_
        simp only [putAll, Act.put, List.setIfInBounds_toArray, List.set_cons_zero, List.set_cons_succ, e6] at hK ⊢
        go_simp
        refine (decimal_any b hb u).mono ?_
        rintro e u1 ⟨rfl, hb⟩
        exact hK _ _ _ rfl (hG.trans (hb.mono hG.size)) hb rfl
      · have e4 : f 4 = (.string (⟨#[105, 110, 100, 101, 120, 32, 111, 117, 116, 32, 111, 102, 32, 114, 97, 110, 103, 101, 32, 91]⟩ ++ txt a ++ ⟨#[93, 32, 119, 105, 116, 104, 32, 108, 101, 110, 103, 116, 104, 32]⟩)) := hd 4 (by kernel_rfl)
        have e7 : f 7 = (.string (txt b)) := hd 7 (by kernel_rfl)
        refine wanted_on rfl ?_
        simp only [putAll, Act.put, List.setIfInBounds_toArray, List.set_cons_zero, List.set_cons_succ, e4, e7] at hK ⊢
        go_simp
        try rw [if_neg (by first | omega | (simp [ByteArray.size_append]; omega))]
        exact hK _ _ _ rfl hG (Below.refl _ _) rfl
      · have e8 : f 8 = (.string (⟨#[105, 110, 100, 101, 120, 32, 111, 117, 116, 32, 111, 102, 32, 114, 97, 110, 103, 101, 32, 91]⟩ ++ txt a ++ ⟨#[93, 32, 119, 105, 116, 104, 32, 108, 101, 110, 103, 116, 104, 32]⟩ ++ txt b)) := hd 8 (by kernel_rfl)
        refine wanted_on rfl ?_
        simp only [putAll, Act.put, List.setIfInBounds_toArray, List.set_cons_zero, List.set_cons_succ, e8] at hK ⊢
        go_simp
        try rw [if_neg (by first | omega | (simp [ByteArray.size_append]; omega))]
        exact hK _ _ _ rfl hG (Below.refl _ _) rfl
    · intro f u hG hf
      have e9 : f 9 = (.string (⟨#[105, 110, 100, 101, 120, 32, 111, 117, 116, 32, 111, 102, 32, 114, 97, 110, 103, 101, 32, 91]⟩ ++ txt a ++ ⟨#[93, 32, 119, 105, 116, 104, 32, 108, 101, 110, 103, 116, 104, 32]⟩ ++ txt b)) := hf 9 (by decide)
      have HB : Hid (Below w.heap.size w u) := below_up hG
      have y0 : (⟨#[105, 110, 100, 101, 120, 32, 111, 117, 116, 32, 111, 102, 32, 114, 97, 110, 103, 101, 32, 91]⟩ : ByteArray).size = 20 := rfl
      have y1 : (⟨#[93, 32, 119, 105, 116, 104, 32, 108, 101, 110, 103, 116, 104, 32]⟩ : ByteArray).size = 14 := rfl
      have hz : ((⟨#[105, 110, 100, 101, 120, 32, 111, 117, 116, 32, 111, 102, 32, 114, 97, 110, 103, 101, 32, 91]⟩ ++ txt a ++ ⟨#[93, 32, 119, 105, 116, 104, 32, 108, 101, 110, 103, 116, 104, 32]⟩ ++ txt b) : ByteArray).size ≤ 400 := by simp only [ByteArray.size_append]; omega
      clear y0 y1
      obtain ⟨sd, hsd⟩ : ∃ sd : ByteArray, sd = (⟨#[105, 110, 100, 101, 120, 32, 111, 117, 116, 32, 111, 102, 32, 114, 97, 110, 103, 101, 32, 91]⟩ ++ txt a ++ ⟨#[93, 32, 119, 105, 116, 104, 32, 108, 101, 110, 103, 116, 104, 32]⟩ ++ txt b) := ⟨_, rfl⟩
      rw [← hsd] at hz
      have HSD : Hid (sd = (⟨#[105, 110, 100, 101, 120, 32, 111, 117, 116, 32, 111, 102, 32, 114, 97, 110, 103, 101, 32, 91]⟩ ++ txt a ++ ⟨#[93, 32, 119, 105, 116, 104, 32, 108, 101, 110, 103, 116, 104, 32]⟩ ++ txt b)) := hsd
      clear hsd
      simp only [putAll, Act.put, List.setIfInBounds_toArray, List.set_cons_zero, List.set_cons_succ, e9]
      rw [← HSD.out]
      clear e9 hf za zb zc
      go_wp2_with fail
      all_goals go_ret
      exact ⟨by rw [← HSD.out]; rfl, HB.out⟩
  by_cases h2 : k = 2
  · subst h2
    have e : textF ⟨2, a, b, c⟩ = leadB ++ ⟨#[105, 110, 116, 101, 103, 101, 114, 32, 100, 105, 118, 105, 100, 101, 32, 98, 121, 32, 122, 101, 114, 111]⟩ := by
      have e0 : toldF ⟨2, a, b, c⟩ = (1, 0, 0) := rfl
      unfold textF; rw [e0, if_neg (by simp), said1]
    rw [e]; clear e; unfold leadB
    go_enter Tryd.func6, Tryd.ntmps6
    go_wp2_with fail
    go_ret
    exact ⟨rfl, (Below.refl _ _).alloc (Nat.le_refl _) _⟩
  by_cases h3 : k = 3
  · subst h3
    have e : textF ⟨3, a, b, c⟩ = leadB ++ ⟨#[110, 101, 103, 97, 116, 105, 118, 101, 32, 115, 104, 105, 102, 116, 32, 97, 109, 111, 117, 110, 116]⟩ := by
      have e0 : toldF ⟨3, a, b, c⟩ = (2, 0, 0) := rfl
      unfold textF; rw [e0, if_neg (by simp), said2]
    rw [e]; clear e; unfold leadB
    go_enter Tryd.func6, Tryd.ntmps6
    go_wp2_with fail
    go_ret
    exact ⟨rfl, (Below.refl _ _).alloc (Nat.le_refl _) _⟩
  by_cases h4 : k = 4
  · subst h4
    have e : textF ⟨4, a, b, c⟩ = leadB ++ ⟨#[105, 110, 118, 97, 108, 105, 100, 32, 109, 101, 109, 111, 114, 121, 32, 97, 100, 100, 114, 101, 115, 115, 32, 111, 114, 32, 110, 105, 108, 32, 112, 111, 105, 110, 116, 101, 114, 32, 100, 101, 114, 101, 102, 101, 114, 101, 110, 99, 101]⟩ := by
      have e0 : toldF ⟨4, a, b, c⟩ = (3, 0, 0) := rfl
      unfold textF; rw [e0, if_neg (by simp), said3]
    rw [e]; clear e; unfold leadB
    go_enter Tryd.func6, Tryd.ntmps6
    go_wp2_with fail
    go_ret
    exact ⟨rfl, (Below.refl _ _).alloc (Nat.le_refl _) _⟩
  by_cases h6 : k = 6
  · subst h6
    have e : textF ⟨6, a, b, c⟩ = leadB ++ ⟨#[110, 111, 32, 105, 110, 116, 32, 105, 110, 32, 97, 110, 121]⟩ := by
      have e0 : toldF ⟨6, a, b, c⟩ = (7, 0, 0) := rfl
      unfold textF; rw [e0, if_neg (by simp), said7]
    rw [e]; clear e; unfold leadB
    go_enter Tryd.func6, Tryd.ntmps6
    go_wp2_with fail
    go_ret
    exact ⟨rfl, (Below.refl _ _).alloc (Nat.le_refl _) _⟩
  by_cases h8 : k = 8
  · subst h8
    have e : textF ⟨8, a, b, c⟩ = leadB ++ ⟨#[112, 97, 110, 105, 99, 32, 99, 97, 108, 108, 101, 100, 32, 119, 105, 116, 104, 32, 110, 105, 108]⟩ := by
      have e0 : toldF ⟨8, a, b, c⟩ = (9, 0, 0) := rfl
      unfold textF; rw [e0, if_neg (by simp), said9]
    rw [e]; clear e; unfold leadB
    go_enter Tryd.func6, Tryd.ntmps6
    go_wp2_with fail
    go_ret
    exact ⟨rfl, (Below.refl _ _).alloc (Nat.le_refl _) _⟩
  by_cases h7 : k = 7
  · subst h7
    have e : textF ⟨7, a, b, c⟩ = leadB ++ (⟨#[108, 101, 110, 103, 116, 104, 32]⟩ ++ txt a ++ ⟨#[32, 105, 115, 32, 97, 98, 111, 118, 101, 32]⟩ ++ txt b) := by
      have e0 : toldF ⟨7, a, b, c⟩ = (8, a, b) := by
        unfold toldF toldB; dsimp only; repeat' split
        all_goals first | rfl | (exfalso; omega)
      unfold textF; rw [e0, if_neg (by simp), said8]
    rw [e]; clear e; unfold leadB
    go_enter Tryd.func6, Tryd.ntmps6
    go_wp2_with fail
    refine wp_grow [isV (.pointer (some ⟨w.heap.size, 1, none⟩)), isV (.int .i64 a), isV (.string (txt a)), isV (.string (⟨#[108, 101, 110, 103, 116, 104, 32]⟩ ++ txt a)), isV (.string (⟨#[108, 101, 110, 103, 116, 104, 32]⟩ ++ txt a ++ ⟨#[32, 105, 115, 32, 97, 98, 111, 118, 101, 32]⟩)), isV (.pointer (some ⟨w.heap.size, 2, none⟩)), isV (.int .i64 b), isV (.string (txt b)), isV (.string (⟨#[108, 101, 110, 103, 116, 104, 32]⟩ ++ txt a ++ ⟨#[32, 105, 115, 32, 97, 98, 111, 118, 101, 32]⟩ ++ txt b)), isV (.string (⟨#[108, 101, 110, 103, 116, 104, 32]⟩ ++ txt a ++ ⟨#[32, 105, 115, 32, 97, 98, 111, 118, 101, 32]⟩ ++ txt b))]
      ⟨stab_is _, stab_is _, stab_is _, stab_is _, stab_is _, stab_is _, stab_is _, stab_is _, stab_is _, stab_is _, trivial⟩ (by kernel_rfl) (by kernel_rfl) (by kernel_rfl) ?_ ?_
    · refine stepsOK_cons (fun f u hG hd K hK => ?_) (stepsOK_cons (fun f u hG hd K hK => ?_) (stepsOK_cons (fun f u hG hd K hK => ?_) (stepsOK_cons (fun f u hG hd K hK => ?_) (stepsOK_cons (fun f u hG hd K hK => ?_) (stepsOK_cons (fun f u hG hd K hK => ?_) (stepsOK_cons (fun f u hG hd K hK => ?_) (stepsOK_cons (fun f u hG hd K hK => ?_) (stepsOK_cons (fun f u hG hd K hK => ?_) (stepsOK_cons (fun f u hG hd K hK => ?_) stepsOK_nil)))))))))
      · refine wanted_on rfl ?_
        simp only [putAll, Act.put, List.setIfInBounds_toArray, List.set_cons_zero, List.set_cons_succ] at hK ⊢
        go_simp
        exact hK _ _ _ rfl hG (Below.refl _ _) rfl
      · have e0 : f 0 = (.pointer (some ⟨w.heap.size, 1, none⟩)) := hd 0 (by kernel_rfl)
        obtain ⟨⟨c0, c1, c2, c3⟩, _⟩ := box4 (box_stays hG)
        refine wanted_on rfl ?_
        simp only [putAll, Act.put, List.setIfInBounds_toArray, List.set_cons_zero, List.set_cons_succ, e0] at hK ⊢
        go_simp
        exact hK _ _ _ rfl hG (Below.refl _ _) rfl
      · have e1 : f 1 = (.int .i64 a) := hd 1 (by kernel_rfl)
        refine wanted_on rfl ?_
        simp only [putAll, Act.put, List.setIfInBounds_toArray, List.set_cons_zero, List.set_cons_succ, e1] at hK ⊢
        go_simp
        refine (decimal_any a ha u).mono ?_
        rintro e u1 ⟨rfl, hb⟩
        exact hK _ _ _ rfl (hG.trans (hb.mono hG.size)) hb rfl
      · have e2 : f 2 = (.string (txt a)) := hd 2 (by kernel_rfl)
        refine wanted_on rfl ?_
        simp only [putAll, Act.put, List.setIfInBounds_toArray, List.set_cons_zero, List.set_cons_succ, e2] at hK ⊢
        go_simp
        try rw [if_neg (by first | omega | (simp [ByteArray.size_append]; omega))]
        exact hK _ _ _ rfl hG (Below.refl _ _) rfl
      · have e3 : f 3 = (.string (⟨#[108, 101, 110, 103, 116, 104, 32]⟩ ++ txt a)) := hd 3 (by kernel_rfl)
        refine wanted_on rfl ?_
        simp only [putAll, Act.put, List.setIfInBounds_toArray, List.set_cons_zero, List.set_cons_succ, e3] at hK ⊢
        go_simp
        try rw [if_neg (by first | omega | (simp [ByteArray.size_append]; omega))]
        exact hK _ _ _ rfl hG (Below.refl _ _) rfl
      · refine wanted_on rfl ?_
        simp only [putAll, Act.put, List.setIfInBounds_toArray, List.set_cons_zero, List.set_cons_succ] at hK ⊢
        go_simp
        exact hK _ _ _ rfl hG (Below.refl _ _) rfl
      · have e5 : f 5 = (.pointer (some ⟨w.heap.size, 2, none⟩)) := hd 5 (by kernel_rfl)
        obtain ⟨⟨c0, c1, c2, c3⟩, _⟩ := box4 (box_stays hG)
        refine wanted_on rfl ?_
        simp only [putAll, Act.put, List.setIfInBounds_toArray, List.set_cons_zero, List.set_cons_succ, e5] at hK ⊢
        go_simp
        exact hK _ _ _ rfl hG (Below.refl _ _) rfl
      · have e6 : f 6 = (.int .i64 b) := hd 6 (by kernel_rfl)
        refine wanted_on rfl ?_
        simp only [putAll, Act.put, List.setIfInBounds_toArray, List.set_cons_zero, List.set_cons_succ, e6] at hK ⊢
        go_simp
        refine (decimal_any b hb u).mono ?_
        rintro e u1 ⟨rfl, hb⟩
        exact hK _ _ _ rfl (hG.trans (hb.mono hG.size)) hb rfl
      · have e4 : f 4 = (.string (⟨#[108, 101, 110, 103, 116, 104, 32]⟩ ++ txt a ++ ⟨#[32, 105, 115, 32, 97, 98, 111, 118, 101, 32]⟩)) := hd 4 (by kernel_rfl)
        have e7 : f 7 = (.string (txt b)) := hd 7 (by kernel_rfl)
        refine wanted_on rfl ?_
        simp only [putAll, Act.put, List.setIfInBounds_toArray, List.set_cons_zero, List.set_cons_succ, e4, e7] at hK ⊢
        go_simp
        try rw [if_neg (by first | omega | (simp [ByteArray.size_append]; omega))]
        exact hK _ _ _ rfl hG (Below.refl _ _) rfl
      · have e8 : f 8 = (.string (⟨#[108, 101, 110, 103, 116, 104, 32]⟩ ++ txt a ++ ⟨#[32, 105, 115, 32, 97, 98, 111, 118, 101, 32]⟩ ++ txt b)) := hd 8 (by kernel_rfl)
        refine wanted_on rfl ?_
        simp only [putAll, Act.put, List.setIfInBounds_toArray, List.set_cons_zero, List.set_cons_succ, e8] at hK ⊢
        go_simp
        try rw [if_neg (by first | omega | (simp [ByteArray.size_append]; omega))]
        exact hK _ _ _ rfl hG (Below.refl _ _) rfl
    · intro f u hG hf
      have e9 : f 9 = (.string (⟨#[108, 101, 110, 103, 116, 104, 32]⟩ ++ txt a ++ ⟨#[32, 105, 115, 32, 97, 98, 111, 118, 101, 32]⟩ ++ txt b)) := hf 9 (by decide)
      have HB : Hid (Below w.heap.size w u) := below_up hG
      have y0 : (⟨#[108, 101, 110, 103, 116, 104, 32]⟩ : ByteArray).size = 7 := rfl
      have y1 : (⟨#[32, 105, 115, 32, 97, 98, 111, 118, 101, 32]⟩ : ByteArray).size = 10 := rfl
      have hz : ((⟨#[108, 101, 110, 103, 116, 104, 32]⟩ ++ txt a ++ ⟨#[32, 105, 115, 32, 97, 98, 111, 118, 101, 32]⟩ ++ txt b) : ByteArray).size ≤ 400 := by simp only [ByteArray.size_append]; omega
      clear y0 y1
      obtain ⟨sd, hsd⟩ : ∃ sd : ByteArray, sd = (⟨#[108, 101, 110, 103, 116, 104, 32]⟩ ++ txt a ++ ⟨#[32, 105, 115, 32, 97, 98, 111, 118, 101, 32]⟩ ++ txt b) := ⟨_, rfl⟩
      rw [← hsd] at hz
      have HSD : Hid (sd = (⟨#[108, 101, 110, 103, 116, 104, 32]⟩ ++ txt a ++ ⟨#[32, 105, 115, 32, 97, 98, 111, 118, 101, 32]⟩ ++ txt b)) := hsd
      clear hsd
      simp only [putAll, Act.put, List.setIfInBounds_toArray, List.set_cons_zero, List.set_cons_succ, e9]
      rw [← HSD.out]
      clear e9 hf za zb zc
      go_wp2_with fail
      all_goals go_ret
      exact ⟨by rw [← HSD.out]; rfl, HB.out⟩
  by_cases h5 : k = 5
  · subst h5
    by_cases q1 : b < 0
    · have e : textF ⟨5, a, b, c⟩ = leadB ++ (⟨#[115, 108, 105, 99, 101, 32, 98, 111, 117, 110, 100, 115, 32, 111, 117, 116, 32, 111, 102, 32, 114, 97, 110, 103, 101, 32, 91]⟩ ++ (⟨#[58]⟩ ++ txt b ++ ⟨#[93, 32, 119, 105, 116, 104, 32, 108, 101, 110, 103, 116, 104, 32]⟩ ++ txt c)) := by
        have e0 : toldF ⟨5, a, b, c⟩ = (4, b, c) := by
          unfold toldF toldB; dsimp only; repeat' split
          all_goals first | rfl | (exfalso; omega)
        unfold textF; rw [e0, if_neg (by simp), said4]
      rw [e]; clear e; unfold leadB
      go_enter Tryd.func6, Tryd.ntmps6
      go_wp2_with fail
      refine wp_grow4 [isV (.string ⟨#[115, 108, 105, 99, 101, 32, 98, 111, 117, 110, 100, 115, 32, 111, 117, 116, 32, 111, 102, 32, 114, 97, 110, 103, 101, 32, 91]⟩), isV (.pointer (some ⟨w.heap.size, 2, none⟩)), isV (.int .i64 b), isV (.string (txt b)), isV (.string (⟨#[58]⟩ ++ txt b)), isV (.string (⟨#[58]⟩ ++ txt b ++ ⟨#[93, 32, 119, 105, 116, 104, 32, 108, 101, 110, 103, 116, 104, 32]⟩)), isV (.pointer (some ⟨w.heap.size, 3, none⟩)), isV (.int .i64 c), isV (.string (txt c)), isV (.string (⟨#[58]⟩ ++ txt b ++ ⟨#[93, 32, 119, 105, 116, 104, 32, 108, 101, 110, 103, 116, 104, 32]⟩ ++ txt c)), isV (.string (⟨#[115, 108, 105, 99, 101, 32, 98, 111, 117, 110, 100, 115, 32, 111, 117, 116, 32, 111, 102, 32, 114, 97, 110, 103, 101, 32, 91]⟩ ++ (⟨#[58]⟩ ++ txt b ++ ⟨#[93, 32, 119, 105, 116, 104, 32, 108, 101, 110, 103, 116, 104, 32]⟩ ++ txt c))), isV (.string (⟨#[115, 108, 105, 99, 101, 32, 98, 111, 117, 110, 100, 115, 32, 111, 117, 116, 32, 111, 102, 32, 114, 97, 110, 103, 101, 32, 91]⟩ ++ (⟨#[58]⟩ ++ txt b ++ ⟨#[93, 32, 119, 105, 116, 104, 32, 108, 101, 110, 103, 116, 104, 32]⟩ ++ txt c)))] 11 (.string ⟨#[115, 108, 105, 99, 101, 32, 98, 111, 117, 110, 100, 115, 32, 111, 117, 116, 32, 111, 102, 32, 114, 97, 110, 103, 101, 32, 91]⟩)
        ⟨stab_is _, stab_is _, stab_is _, stab_is _, stab_is _, stab_is _, stab_is _, stab_is _, stab_is _, stab_is _, stab_is _, stab_is _, trivial⟩ (by kernel_rfl) (by kernel_rfl) (by kernel_rfl) rfl ?_ ?_
      · refine stepsOK4_cons (fun f u hG hd hv K hK => ?_) (stepsOK4_cons (fun f u hG hd hv K hK => ?_) (stepsOK4_cons (fun f u hG hd hv K hK => ?_) (stepsOK4_cons (fun f u hG hd hv K hK => ?_) (stepsOK4_cons (fun f u hG hd hv K hK => ?_) (stepsOK4_cons (fun f u hG hd hv K hK => ?_) (stepsOK4_cons (fun f u hG hd hv K hK => ?_) (stepsOK4_cons (fun f u hG hd hv K hK => ?_) (stepsOK4_cons (fun f u hG hd hv K hK => ?_) (stepsOK4_cons (fun f u hG hd hv K hK => ?_) (stepsOK4_cons (fun f u hG hd hv K hK => ?_) (stepsOK4_cons (fun f u hG hd hv K hK => ?_) stepsOK4_nil)))))))))))
        · have eL : f 11 = .string ⟨#[115, 108, 105, 99, 101, 32, 98, 111, 117, 110, 100, 115, 32, 111, 117, 116, 32, 111, 102, 32, 114, 97, 110, 103, 101, 32, 91]⟩ := hv (by kernel_rfl)
          refine wanted_on rfl ?_
          simp only [putAll, Act.put, List.setIfInBounds_toArray, List.set_cons_zero, List.set_cons_succ, eL] at hK ⊢
          go_simp
          exact hK _ _ _ rfl hG (Below.refl _ _) rfl
        · refine wanted_on rfl ?_
          simp only [putAll, Act.put, List.setIfInBounds_toArray, List.set_cons_zero, List.set_cons_succ] at hK ⊢
          go_simp
          exact hK _ _ _ rfl hG (Below.refl _ _) rfl
        · have e1 : f 1 = (.pointer (some ⟨w.heap.size, 2, none⟩)) := hd 1 (by kernel_rfl)
          obtain ⟨⟨c0, c1, c2, c3⟩, _⟩ := box4 (box_stays hG)
          refine wanted_on rfl ?_
          simp only [putAll, Act.put, List.setIfInBounds_toArray, List.set_cons_zero, List.set_cons_succ, e1] at hK ⊢
          go_simp
          exact hK _ _ _ rfl hG (Below.refl _ _) rfl
        · have e2 : f 2 = (.int .i64 b) := hd 2 (by kernel_rfl)
          refine wanted_on rfl ?_
          simp only [putAll, Act.put, List.setIfInBounds_toArray, List.set_cons_zero, List.set_cons_succ, e2] at hK ⊢
          go_simp
          refine (decimal_any b hb u).mono ?_
          rintro e u1 ⟨rfl, hb⟩
          exact hK _ _ _ rfl (hG.trans (hb.mono hG.size)) hb rfl
        · have e3 : f 3 = (.string (txt b)) := hd 3 (by kernel_rfl)
          refine wanted_on rfl ?_
          simp only [putAll, Act.put, List.setIfInBounds_toArray, List.set_cons_zero, List.set_cons_succ, e3] at hK ⊢
          go_simp
          try rw [if_neg (by first | omega | (simp [ByteArray.size_append]; omega))]
          exact hK _ _ _ rfl hG (Below.refl _ _) rfl
        · have e4 : f 4 = (.string (⟨#[58]⟩ ++ txt b)) := hd 4 (by kernel_rfl)
          refine wanted_on rfl ?_
          simp only [putAll, Act.put, List.setIfInBounds_toArray, List.set_cons_zero, List.set_cons_succ, e4] at hK ⊢
          go_simp
          try rw [if_neg (by first | omega | (simp [ByteArray.size_append]; omega))]
          exact hK _ _ _ rfl hG (Below.refl _ _) rfl
        · refine wanted_on rfl ?_
          simp only [putAll, Act.put, List.setIfInBounds_toArray, List.set_cons_zero, List.set_cons_succ] at hK ⊢
          go_simp
          exact hK _ _ _ rfl hG (Below.refl _ _) rfl
        · have e6 : f 6 = (.pointer (some ⟨w.heap.size, 3, none⟩)) := hd 6 (by kernel_rfl)
          obtain ⟨⟨c0, c1, c2, c3⟩, _⟩ := box4 (box_stays hG)
          refine wanted_on rfl ?_
          simp only [putAll, Act.put, List.setIfInBounds_toArray, List.set_cons_zero, List.set_cons_succ, e6] at hK ⊢
          go_simp
          exact hK _ _ _ rfl hG (Below.refl _ _) rfl
        · have e7 : f 7 = (.int .i64 c) := hd 7 (by kernel_rfl)
          refine wanted_on rfl ?_
          simp only [putAll, Act.put, List.setIfInBounds_toArray, List.set_cons_zero, List.set_cons_succ, e7] at hK ⊢
          go_simp
          refine (decimal_any c hc u).mono ?_
          rintro e u1 ⟨rfl, hb⟩
          exact hK _ _ _ rfl (hG.trans (hb.mono hG.size)) hb rfl
        · have e5 : f 5 = (.string (⟨#[58]⟩ ++ txt b ++ ⟨#[93, 32, 119, 105, 116, 104, 32, 108, 101, 110, 103, 116, 104, 32]⟩)) := hd 5 (by kernel_rfl)
          have e8 : f 8 = (.string (txt c)) := hd 8 (by kernel_rfl)
          refine wanted_on rfl ?_
          simp only [putAll, Act.put, List.setIfInBounds_toArray, List.set_cons_zero, List.set_cons_succ, e5, e8] at hK ⊢
          go_simp
          try rw [if_neg (by first | omega | (simp [ByteArray.size_append]; omega))]
          exact hK _ _ _ rfl hG (Below.refl _ _) rfl
        · have e0 : f 0 = (.string ⟨#[115, 108, 105, 99, 101, 32, 98, 111, 117, 110, 100, 115, 32, 111, 117, 116, 32, 111, 102, 32, 114, 97, 110, 103, 101, 32, 91]⟩) := hd 0 (by kernel_rfl)
          have e9 : f 9 = (.string (⟨#[58]⟩ ++ txt b ++ ⟨#[93, 32, 119, 105, 116, 104, 32, 108, 101, 110, 103, 116, 104, 32]⟩ ++ txt c)) := hd 9 (by kernel_rfl)
          refine wanted_on rfl ?_
          simp only [putAll, Act.put, List.setIfInBounds_toArray, List.set_cons_zero, List.set_cons_succ, e0, e9] at hK ⊢
          go_simp
          try rw [if_neg (by first | omega | (simp [ByteArray.size_append]; omega))]
          exact hK _ _ _ rfl hG (Below.refl _ _) rfl
        · have e10 : f 10 = (.string (⟨#[115, 108, 105, 99, 101, 32, 98, 111, 117, 110, 100, 115, 32, 111, 117, 116, 32, 111, 102, 32, 114, 97, 110, 103, 101, 32, 91]⟩ ++ (⟨#[58]⟩ ++ txt b ++ ⟨#[93, 32, 119, 105, 116, 104, 32, 108, 101, 110, 103, 116, 104, 32]⟩ ++ txt c))) := hd 10 (by kernel_rfl)
          refine wanted_on rfl ?_
          simp only [putAll, Act.put, List.setIfInBounds_toArray, List.set_cons_zero, List.set_cons_succ, e10] at hK ⊢
          go_simp
          try rw [if_neg (by first | omega | (simp [ByteArray.size_append]; omega))]
          exact hK _ _ _ rfl hG (Below.refl _ _) rfl
      · intro f u hG hf
        have e11 : f 11 = (.string (⟨#[115, 108, 105, 99, 101, 32, 98, 111, 117, 110, 100, 115, 32, 111, 117, 116, 32, 111, 102, 32, 114, 97, 110, 103, 101, 32, 91]⟩ ++ (⟨#[58]⟩ ++ txt b ++ ⟨#[93, 32, 119, 105, 116, 104, 32, 108, 101, 110, 103, 116, 104, 32]⟩ ++ txt c))) := hf 11 (by decide)
        have HB : Hid (Below w.heap.size w u) := below_up hG
        have y0 : (⟨#[115, 108, 105, 99, 101, 32, 98, 111, 117, 110, 100, 115, 32, 111, 117, 116, 32, 111, 102, 32, 114, 97, 110, 103, 101, 32, 91]⟩ : ByteArray).size = 27 := rfl
        have y1 : (⟨#[58]⟩ : ByteArray).size = 1 := rfl
        have y2 : (⟨#[93, 32, 119, 105, 116, 104, 32, 108, 101, 110, 103, 116, 104, 32]⟩ : ByteArray).size = 14 := rfl
        have hz : ((⟨#[115, 108, 105, 99, 101, 32, 98, 111, 117, 110, 100, 115, 32, 111, 117, 116, 32, 111, 102, 32, 114, 97, 110, 103, 101, 32, 91]⟩ ++ (⟨#[58]⟩ ++ txt b ++ ⟨#[93, 32, 119, 105, 116, 104, 32, 108, 101, 110, 103, 116, 104, 32]⟩ ++ txt c)) : ByteArray).size ≤ 400 := by simp only [ByteArray.size_append]; omega
        clear y0 y1 y2
        obtain ⟨sd, hsd⟩ : ∃ sd : ByteArray, sd = (⟨#[115, 108, 105, 99, 101, 32, 98, 111, 117, 110, 100, 115, 32, 111, 117, 116, 32, 111, 102, 32, 114, 97, 110, 103, 101, 32, 91]⟩ ++ (⟨#[58]⟩ ++ txt b ++ ⟨#[93, 32, 119, 105, 116, 104, 32, 108, 101, 110, 103, 116, 104, 32]⟩ ++ txt c)) := ⟨_, rfl⟩
        rw [← hsd] at hz
        have HSD : Hid (sd = (⟨#[115, 108, 105, 99, 101, 32, 98, 111, 117, 110, 100, 115, 32, 111, 117, 116, 32, 111, 102, 32, 114, 97, 110, 103, 101, 32, 91]⟩ ++ (⟨#[58]⟩ ++ txt b ++ ⟨#[93, 32, 119, 105, 116, 104, 32, 108, 101, 110, 103, 116, 104, 32]⟩ ++ txt c))) := hsd
        clear hsd
        simp only [putAll, Act.put, List.setIfInBounds_toArray, List.set_cons_zero, List.set_cons_succ, e11]
        rw [← HSD.out]
        clear e11 hf za zb zc
        go_wp2_with fail
        all_goals go_ret
        exact ⟨by rw [← HSD.out]; rfl, HB.out⟩
    · have r1 : decide (b < 0) = false := decide_eq_false q1
      by_cases q2 : c < b
      · have e : textF ⟨5, a, b, c⟩ = leadB ++ (⟨#[115, 108, 105, 99, 101, 32, 98, 111, 117, 110, 100, 115, 32, 111, 117, 116, 32, 111, 102, 32, 114, 97, 110, 103, 101, 32, 91]⟩ ++ (⟨#[58]⟩ ++ txt b ++ ⟨#[93, 32, 119, 105, 116, 104, 32, 108, 101, 110, 103, 116, 104, 32]⟩ ++ txt c)) := by
          have e0 : toldF ⟨5, a, b, c⟩ = (4, b, c) := by
            unfold toldF toldB; dsimp only; repeat' split
            all_goals first | rfl | (exfalso; omega)
          unfold textF; rw [e0, if_neg (by simp), said4]
        rw [e]; clear e; unfold leadB
        go_enter Tryd.func6, Tryd.ntmps6
        go_wp2_with fail
        refine wp_grow4 [isV (.string ⟨#[115, 108, 105, 99, 101, 32, 98, 111, 117, 110, 100, 115, 32, 111, 117, 116, 32, 111, 102, 32, 114, 97, 110, 103, 101, 32, 91]⟩), isV (.pointer (some ⟨w.heap.size, 2, none⟩)), isV (.int .i64 b), isV (.string (txt b)), isV (.string (⟨#[58]⟩ ++ txt b)), isV (.string (⟨#[58]⟩ ++ txt b ++ ⟨#[93, 32, 119, 105, 116, 104, 32, 108, 101, 110, 103, 116, 104, 32]⟩)), isV (.pointer (some ⟨w.heap.size, 3, none⟩)), isV (.int .i64 c), isV (.string (txt c)), isV (.string (⟨#[58]⟩ ++ txt b ++ ⟨#[93, 32, 119, 105, 116, 104, 32, 108, 101, 110, 103, 116, 104, 32]⟩ ++ txt c)), isV (.string (⟨#[115, 108, 105, 99, 101, 32, 98, 111, 117, 110, 100, 115, 32, 111, 117, 116, 32, 111, 102, 32, 114, 97, 110, 103, 101, 32, 91]⟩ ++ (⟨#[58]⟩ ++ txt b ++ ⟨#[93, 32, 119, 105, 116, 104, 32, 108, 101, 110, 103, 116, 104, 32]⟩ ++ txt c))), isV (.string (⟨#[115, 108, 105, 99, 101, 32, 98, 111, 117, 110, 100, 115, 32, 111, 117, 116, 32, 111, 102, 32, 114, 97, 110, 103, 101, 32, 91]⟩ ++ (⟨#[58]⟩ ++ txt b ++ ⟨#[93, 32, 119, 105, 116, 104, 32, 108, 101, 110, 103, 116, 104, 32]⟩ ++ txt c)))] 11 (.string ⟨#[115, 108, 105, 99, 101, 32, 98, 111, 117, 110, 100, 115, 32, 111, 117, 116, 32, 111, 102, 32, 114, 97, 110, 103, 101, 32, 91]⟩)
          ⟨stab_is _, stab_is _, stab_is _, stab_is _, stab_is _, stab_is _, stab_is _, stab_is _, stab_is _, stab_is _, stab_is _, stab_is _, trivial⟩ (by kernel_rfl) (by kernel_rfl) (by kernel_rfl) rfl ?_ ?_
        · refine stepsOK4_cons (fun f u hG hd hv K hK => ?_) (stepsOK4_cons (fun f u hG hd hv K hK => ?_) (stepsOK4_cons (fun f u hG hd hv K hK => ?_) (stepsOK4_cons (fun f u hG hd hv K hK => ?_) (stepsOK4_cons (fun f u hG hd hv K hK => ?_) (stepsOK4_cons (fun f u hG hd hv K hK => ?_) (stepsOK4_cons (fun f u hG hd hv K hK => ?_) (stepsOK4_cons (fun f u hG hd hv K hK => ?_) (stepsOK4_cons (fun f u hG hd hv K hK => ?_) (stepsOK4_cons (fun f u hG hd hv K hK => ?_) (stepsOK4_cons (fun f u hG hd hv K hK => ?_) (stepsOK4_cons (fun f u hG hd hv K hK => ?_) stepsOK4_nil)))))))))))
          · have eL : f 11 = .string ⟨#[115, 108, 105, 99, 101, 32, 98, 111, 117, 110, 100, 115, 32, 111, 117, 116, 32, 111, 102, 32, 114, 97, 110, 103, 101, 32, 91]⟩ := hv (by kernel_rfl)
            refine wanted_on rfl ?_
            simp only [putAll, Act.put, List.setIfInBounds_toArray, List.set_cons_zero, List.set_cons_succ, eL] at hK ⊢
            go_simp
            exact hK _ _ _ rfl hG (Below.refl _ _) rfl
          · refine wanted_on rfl ?_
            simp only [putAll, Act.put, List.setIfInBounds_toArray, List.set_cons_zero, List.set_cons_succ] at hK ⊢
            go_simp
            exact hK _ _ _ rfl hG (Below.refl _ _) rfl
          · have e1 : f 1 = (.pointer (some ⟨w.heap.size, 2, none⟩)) := hd 1 (by kernel_rfl)
            obtain ⟨⟨c0, c1, c2, c3⟩, _⟩ := box4 (box_stays hG)
            refine wanted_on rfl ?_
            simp only [putAll, Act.put, List.setIfInBounds_toArray, List.set_cons_zero, List.set_cons_succ, e1] at hK ⊢
            go_simp
            exact hK _ _ _ rfl hG (Below.refl _ _) rfl
          · have e2 : f 2 = (.int .i64 b) := hd 2 (by kernel_rfl)
            refine wanted_on rfl ?_
            simp only [putAll, Act.put, List.setIfInBounds_toArray, List.set_cons_zero, List.set_cons_succ, e2] at hK ⊢
            go_simp
            refine (decimal_any b hb u).mono ?_
            rintro e u1 ⟨rfl, hb⟩
            exact hK _ _ _ rfl (hG.trans (hb.mono hG.size)) hb rfl
          · have e3 : f 3 = (.string (txt b)) := hd 3 (by kernel_rfl)
            refine wanted_on rfl ?_
            simp only [putAll, Act.put, List.setIfInBounds_toArray, List.set_cons_zero, List.set_cons_succ, e3] at hK ⊢
            go_simp
            try rw [if_neg (by first | omega | (simp [ByteArray.size_append]; omega))]
            exact hK _ _ _ rfl hG (Below.refl _ _) rfl
          · have e4 : f 4 = (.string (⟨#[58]⟩ ++ txt b)) := hd 4 (by kernel_rfl)
            refine wanted_on rfl ?_
            simp only [putAll, Act.put, List.setIfInBounds_toArray, List.set_cons_zero, List.set_cons_succ, e4] at hK ⊢
            go_simp
            try rw [if_neg (by first | omega | (simp [ByteArray.size_append]; omega))]
            exact hK _ _ _ rfl hG (Below.refl _ _) rfl
          · refine wanted_on rfl ?_
            simp only [putAll, Act.put, List.setIfInBounds_toArray, List.set_cons_zero, List.set_cons_succ] at hK ⊢
            go_simp
            exact hK _ _ _ rfl hG (Below.refl _ _) rfl
          · have e6 : f 6 = (.pointer (some ⟨w.heap.size, 3, none⟩)) := hd 6 (by kernel_rfl)
            obtain ⟨⟨c0, c1, c2, c3⟩, _⟩ := box4 (box_stays hG)
            refine wanted_on rfl ?_
            simp only [putAll, Act.put, List.setIfInBounds_toArray, List.set_cons_zero, List.set_cons_succ, e6] at hK ⊢
            go_simp
            exact hK _ _ _ rfl hG (Below.refl _ _) rfl
          · have e7 : f 7 = (.int .i64 c) := hd 7 (by kernel_rfl)
            refine wanted_on rfl ?_
            simp only [putAll, Act.put, List.setIfInBounds_toArray, List.set_cons_zero, List.set_cons_succ, e7] at hK ⊢
            go_simp
            refine (decimal_any c hc u).mono ?_
            rintro e u1 ⟨rfl, hb⟩
            exact hK _ _ _ rfl (hG.trans (hb.mono hG.size)) hb rfl
          · have e5 : f 5 = (.string (⟨#[58]⟩ ++ txt b ++ ⟨#[93, 32, 119, 105, 116, 104, 32, 108, 101, 110, 103, 116, 104, 32]⟩)) := hd 5 (by kernel_rfl)
            have e8 : f 8 = (.string (txt c)) := hd 8 (by kernel_rfl)
            refine wanted_on rfl ?_
            simp only [putAll, Act.put, List.setIfInBounds_toArray, List.set_cons_zero, List.set_cons_succ, e5, e8] at hK ⊢
            go_simp
            try rw [if_neg (by first | omega | (simp [ByteArray.size_append]; omega))]
            exact hK _ _ _ rfl hG (Below.refl _ _) rfl
          · have e0 : f 0 = (.string ⟨#[115, 108, 105, 99, 101, 32, 98, 111, 117, 110, 100, 115, 32, 111, 117, 116, 32, 111, 102, 32, 114, 97, 110, 103, 101, 32, 91]⟩) := hd 0 (by kernel_rfl)
            have e9 : f 9 = (.string (⟨#[58]⟩ ++ txt b ++ ⟨#[93, 32, 119, 105, 116, 104, 32, 108, 101, 110, 103, 116, 104, 32]⟩ ++ txt c)) := hd 9 (by kernel_rfl)
            refine wanted_on rfl ?_
            simp only [putAll, Act.put, List.setIfInBounds_toArray, List.set_cons_zero, List.set_cons_succ, e0, e9] at hK ⊢
            go_simp
            try rw [if_neg (by first | omega | (simp [ByteArray.size_append]; omega))]
            exact hK _ _ _ rfl hG (Below.refl _ _) rfl
          · have e10 : f 10 = (.string (⟨#[115, 108, 105, 99, 101, 32, 98, 111, 117, 110, 100, 115, 32, 111, 117, 116, 32, 111, 102, 32, 114, 97, 110, 103, 101, 32, 91]⟩ ++ (⟨#[58]⟩ ++ txt b ++ ⟨#[93, 32, 119, 105, 116, 104, 32, 108, 101, 110, 103, 116, 104, 32]⟩ ++ txt c))) := hd 10 (by kernel_rfl)
            refine wanted_on rfl ?_
            simp only [putAll, Act.put, List.setIfInBounds_toArray, List.set_cons_zero, List.set_cons_succ, e10] at hK ⊢
            go_simp
            try rw [if_neg (by first | omega | (simp [ByteArray.size_append]; omega))]
            exact hK _ _ _ rfl hG (Below.refl _ _) rfl
        · intro f u hG hf
          have e11 : f 11 = (.string (⟨#[115, 108, 105, 99, 101, 32, 98, 111, 117, 110, 100, 115, 32, 111, 117, 116, 32, 111, 102, 32, 114, 97, 110, 103, 101, 32, 91]⟩ ++ (⟨#[58]⟩ ++ txt b ++ ⟨#[93, 32, 119, 105, 116, 104, 32, 108, 101, 110, 103, 116, 104, 32]⟩ ++ txt c))) := hf 11 (by decide)
          have HB : Hid (Below w.heap.size w u) := below_up hG
          have y0 : (⟨#[115, 108, 105, 99, 101, 32, 98, 111, 117, 110, 100, 115, 32, 111, 117, 116, 32, 111, 102, 32, 114, 97, 110, 103, 101, 32, 91]⟩ : ByteArray).size = 27 := rfl
          have y1 : (⟨#[58]⟩ : ByteArray).size = 1 := rfl
          have y2 : (⟨#[93, 32, 119, 105, 116, 104, 32, 108, 101, 110, 103, 116, 104, 32]⟩ : ByteArray).size = 14 := rfl
          have hz : ((⟨#[115, 108, 105, 99, 101, 32, 98, 111, 117, 110, 100, 115, 32, 111, 117, 116, 32, 111, 102, 32, 114, 97, 110, 103, 101, 32, 91]⟩ ++ (⟨#[58]⟩ ++ txt b ++ ⟨#[93, 32, 119, 105, 116, 104, 32, 108, 101, 110, 103, 116, 104, 32]⟩ ++ txt c)) : ByteArray).size ≤ 400 := by simp only [ByteArray.size_append]; omega
          clear y0 y1 y2
          obtain ⟨sd, hsd⟩ : ∃ sd : ByteArray, sd = (⟨#[115, 108, 105, 99, 101, 32, 98, 111, 117, 110, 100, 115, 32, 111, 117, 116, 32, 111, 102, 32, 114, 97, 110, 103, 101, 32, 91]⟩ ++ (⟨#[58]⟩ ++ txt b ++ ⟨#[93, 32, 119, 105, 116, 104, 32, 108, 101, 110, 103, 116, 104, 32]⟩ ++ txt c)) := ⟨_, rfl⟩
          rw [← hsd] at hz
          have HSD : Hid (sd = (⟨#[115, 108, 105, 99, 101, 32, 98, 111, 117, 110, 100, 115, 32, 111, 117, 116, 32, 111, 102, 32, 114, 97, 110, 103, 101, 32, 91]⟩ ++ (⟨#[58]⟩ ++ txt b ++ ⟨#[93, 32, 119, 105, 116, 104, 32, 108, 101, 110, 103, 116, 104, 32]⟩ ++ txt c))) := hsd
          clear hsd
          simp only [putAll, Act.put, List.setIfInBounds_toArray, List.set_cons_zero, List.set_cons_succ, e11]
          rw [← HSD.out]
          clear e11 hf za zb zc
          go_wp2_with fail
          all_goals go_ret
          exact ⟨by rw [← HSD.out]; rfl, HB.out⟩
      · have r2 : decide (c < b) = false := decide_eq_false q2
        by_cases q3 : b < a
        · have e : textF ⟨5, a, b, c⟩ = leadB ++ (⟨#[115, 108, 105, 99, 101, 32, 98, 111, 117, 110, 100, 115, 32, 111, 117, 116, 32, 111, 102, 32, 114, 97, 110, 103, 101, 32, 91]⟩ ++ (txt a ++ ⟨#[58]⟩ ++ txt b ++ ⟨#[93]⟩)) := by
            have e0 : toldF ⟨5, a, b, c⟩ = (5, a, b) := by
              unfold toldF toldB; dsimp only; repeat' split
              all_goals first | rfl | (exfalso; omega)
            unfold textF; rw [e0, if_neg (by simp), said5]
          rw [e]; clear e; unfold leadB
          go_enter Tryd.func6, Tryd.ntmps6
          go_wp2_with fail
          refine wp_grow4 [isV (.string ⟨#[115, 108, 105, 99, 101, 32, 98, 111, 117, 110, 100, 115, 32, 111, 117, 116, 32, 111, 102, 32, 114, 97, 110, 103, 101, 32, 91]⟩), isV (.pointer (some ⟨w.heap.size, 1, none⟩)), isV (.int .i64 a), isV (.string (txt a)), isV (.string (txt a ++ ⟨#[58]⟩)), isV (.pointer (some ⟨w.heap.size, 2, none⟩)), isV (.int .i64 b), isV (.string (txt b)), isV (.string (txt a ++ ⟨#[58]⟩ ++ txt b)), isV (.string (txt a ++ ⟨#[58]⟩ ++ txt b ++ ⟨#[93]⟩)), isV (.string (⟨#[115, 108, 105, 99, 101, 32, 98, 111, 117, 110, 100, 115, 32, 111, 117, 116, 32, 111, 102, 32, 114, 97, 110, 103, 101, 32, 91]⟩ ++ (txt a ++ ⟨#[58]⟩ ++ txt b ++ ⟨#[93]⟩))), isV (.string (⟨#[115, 108, 105, 99, 101, 32, 98, 111, 117, 110, 100, 115, 32, 111, 117, 116, 32, 111, 102, 32, 114, 97, 110, 103, 101, 32, 91]⟩ ++ (txt a ++ ⟨#[58]⟩ ++ txt b ++ ⟨#[93]⟩)))] 11 (.string ⟨#[115, 108, 105, 99, 101, 32, 98, 111, 117, 110, 100, 115, 32, 111, 117, 116, 32, 111, 102, 32, 114, 97, 110, 103, 101, 32, 91]⟩)
            ⟨stab_is _, stab_is _, stab_is _, stab_is _, stab_is _, stab_is _, stab_is _, stab_is _, stab_is _, stab_is _, stab_is _, stab_is _, trivial⟩ (by kernel_rfl) (by kernel_rfl) (by kernel_rfl) rfl ?_ ?_
          · refine stepsOK4_cons (fun f u hG hd hv K hK => ?_) (stepsOK4_cons (fun f u hG hd hv K hK => ?_) (stepsOK4_cons (fun f u hG hd hv K hK => ?_) (stepsOK4_cons (fun f u hG hd hv K hK => ?_) (stepsOK4_cons (fun f u hG hd hv K hK => ?_) (stepsOK4_cons (fun f u hG hd hv K hK => ?_) (stepsOK4_cons (fun f u hG hd hv K hK => ?_) (stepsOK4_cons (fun f u hG hd hv K hK => ?_) (stepsOK4_cons (fun f u hG hd hv K hK => ?_) (stepsOK4_cons (fun f u hG hd hv K hK => ?_) (stepsOK4_cons (fun f u hG hd hv K hK => ?_) (stepsOK4_cons (fun f u hG hd hv K hK => ?_) stepsOK4_nil)))))))))))
            · have eL : f 11 = .string ⟨#[115, 108, 105, 99, 101, 32, 98, 111, 117, 110, 100, 115, 32, 111, 117, 116, 32, 111, 102, 32, 114, 97, 110, 103, 101, 32, 91]⟩ := hv (by kernel_rfl)
              refine wanted_on rfl ?_
              simp only [putAll, Act.put, List.setIfInBounds_toArray, List.set_cons_zero, List.set_cons_succ, eL] at hK ⊢
              go_simp
              exact hK _ _ _ rfl hG (Below.refl _ _) rfl
            · refine wanted_on rfl ?_
              simp only [putAll, Act.put, List.setIfInBounds_toArray, List.set_cons_zero, List.set_cons_succ] at hK ⊢
              go_simp
              exact hK _ _ _ rfl hG (Below.refl _ _) rfl
            · have e1 : f 1 = (.pointer (some ⟨w.heap.size, 1, none⟩)) := hd 1 (by kernel_rfl)
              obtain ⟨⟨c0, c1, c2, c3⟩, _⟩ := box4 (box_stays hG)
              refine wanted_on rfl ?_
              simp only [putAll, Act.put, List.setIfInBounds_toArray, List.set_cons_zero, List.set_cons_succ, e1] at hK ⊢
              go_simp
              exact hK _ _ _ rfl hG (Below.refl _ _) rfl
            · have e2 : f 2 = (.int .i64 a) := hd 2 (by kernel_rfl)
              refine wanted_on rfl ?_
              simp only [putAll, Act.put, List.setIfInBounds_toArray, List.set_cons_zero, List.set_cons_succ, e2] at hK ⊢
              go_simp
              refine (decimal_any a ha u).mono ?_
              rintro e u1 ⟨rfl, hb⟩
              exact hK _ _ _ rfl (hG.trans (hb.mono hG.size)) hb rfl
            · have e3 : f 3 = (.string (txt a)) := hd 3 (by kernel_rfl)
              refine wanted_on rfl ?_
              simp only [putAll, Act.put, List.setIfInBounds_toArray, List.set_cons_zero, List.set_cons_succ, e3] at hK ⊢
              go_simp
              try rw [if_neg (by first | omega | (simp [ByteArray.size_append]; omega))]
              exact hK _ _ _ rfl hG (Below.refl _ _) rfl
            · refine wanted_on rfl ?_
              simp only [putAll, Act.put, List.setIfInBounds_toArray, List.set_cons_zero, List.set_cons_succ] at hK ⊢
              go_simp
              exact hK _ _ _ rfl hG (Below.refl _ _) rfl
            · have e5 : f 5 = (.pointer (some ⟨w.heap.size, 2, none⟩)) := hd 5 (by kernel_rfl)
              obtain ⟨⟨c0, c1, c2, c3⟩, _⟩ := box4 (box_stays hG)
              refine wanted_on rfl ?_
              simp only [putAll, Act.put, List.setIfInBounds_toArray, List.set_cons_zero, List.set_cons_succ, e5] at hK ⊢
              go_simp
              exact hK _ _ _ rfl hG (Below.refl _ _) rfl
            · have e6 : f 6 = (.int .i64 b) := hd 6 (by kernel_rfl)
              refine wanted_on rfl ?_
              simp only [putAll, Act.put, List.setIfInBounds_toArray, List.set_cons_zero, List.set_cons_succ, e6] at hK ⊢
              go_simp
              refine (decimal_any b hb u).mono ?_
              rintro e u1 ⟨rfl, hb⟩
              exact hK _ _ _ rfl (hG.trans (hb.mono hG.size)) hb rfl
            · have e4 : f 4 = (.string (txt a ++ ⟨#[58]⟩)) := hd 4 (by kernel_rfl)
              have e7 : f 7 = (.string (txt b)) := hd 7 (by kernel_rfl)
              refine wanted_on rfl ?_
              simp only [putAll, Act.put, List.setIfInBounds_toArray, List.set_cons_zero, List.set_cons_succ, e4, e7] at hK ⊢
              go_simp
              try rw [if_neg (by first | omega | (simp [ByteArray.size_append]; omega))]
              exact hK _ _ _ rfl hG (Below.refl _ _) rfl
            · have e8 : f 8 = (.string (txt a ++ ⟨#[58]⟩ ++ txt b)) := hd 8 (by kernel_rfl)
              refine wanted_on rfl ?_
              simp only [putAll, Act.put, List.setIfInBounds_toArray, List.set_cons_zero, List.set_cons_succ, e8] at hK ⊢
              go_simp
              try rw [if_neg (by first | omega | (simp [ByteArray.size_append]; omega))]
              exact hK _ _ _ rfl hG (Below.refl _ _) rfl
            · have e0 : f 0 = (.string ⟨#[115, 108, 105, 99, 101, 32, 98, 111, 117, 110, 100, 115, 32, 111, 117, 116, 32, 111, 102, 32, 114, 97, 110, 103, 101, 32, 91]⟩) := hd 0 (by kernel_rfl)
              have e9 : f 9 = (.string (txt a ++ ⟨#[58]⟩ ++ txt b ++ ⟨#[93]⟩)) := hd 9 (by kernel_rfl)
              refine wanted_on rfl ?_
              simp only [putAll, Act.put, List.setIfInBounds_toArray, List.set_cons_zero, List.set_cons_succ, e0, e9] at hK ⊢
              go_simp
              try rw [if_neg (by first | omega | (simp [ByteArray.size_append]; omega))]
              exact hK _ _ _ rfl hG (Below.refl _ _) rfl
            · have e10 : f 10 = (.string (⟨#[115, 108, 105, 99, 101, 32, 98, 111, 117, 110, 100, 115, 32, 111, 117, 116, 32, 111, 102, 32, 114, 97, 110, 103, 101, 32, 91]⟩ ++ (txt a ++ ⟨#[58]⟩ ++ txt b ++ ⟨#[93]⟩))) := hd 10 (by kernel_rfl)
              refine wanted_on rfl ?_
              simp only [putAll, Act.put, List.setIfInBounds_toArray, List.set_cons_zero, List.set_cons_succ, e10] at hK ⊢
              go_simp
              try rw [if_neg (by first | omega | (simp [ByteArray.size_append]; omega))]
              exact hK _ _ _ rfl hG (Below.refl _ _) rfl
          · intro f u hG hf
            have e11 : f 11 = (.string (⟨#[115, 108, 105, 99, 101, 32, 98, 111, 117, 110, 100, 115, 32, 111, 117, 116, 32, 111, 102, 32, 114, 97, 110, 103, 101, 32, 91]⟩ ++ (txt a ++ ⟨#[58]⟩ ++ txt b ++ ⟨#[93]⟩))) := hf 11 (by decide)
            have HB : Hid (Below w.heap.size w u) := below_up hG
            have y0 : (⟨#[115, 108, 105, 99, 101, 32, 98, 111, 117, 110, 100, 115, 32, 111, 117, 116, 32, 111, 102, 32, 114, 97, 110, 103, 101, 32, 91]⟩ : ByteArray).size = 27 := rfl
            have y1 : (⟨#[58]⟩ : ByteArray).size = 1 := rfl
            have y2 : (⟨#[93]⟩ : ByteArray).size = 1 := rfl
            have hz : ((⟨#[115, 108, 105, 99, 101, 32, 98, 111, 117, 110, 100, 115, 32, 111, 117, 116, 32, 111, 102, 32, 114, 97, 110, 103, 101, 32, 91]⟩ ++ (txt a ++ ⟨#[58]⟩ ++ txt b ++ ⟨#[93]⟩)) : ByteArray).size ≤ 400 := by simp only [ByteArray.size_append]; omega
            clear y0 y1 y2
            obtain ⟨sd, hsd⟩ : ∃ sd : ByteArray, sd = (⟨#[115, 108, 105, 99, 101, 32, 98, 111, 117, 110, 100, 115, 32, 111, 117, 116, 32, 111, 102, 32, 114, 97, 110, 103, 101, 32, 91]⟩ ++ (txt a ++ ⟨#[58]⟩ ++ txt b ++ ⟨#[93]⟩)) := ⟨_, rfl⟩
            rw [← hsd] at hz
            have HSD : Hid (sd = (⟨#[115, 108, 105, 99, 101, 32, 98, 111, 117, 110, 100, 115, 32, 111, 117, 116, 32, 111, 102, 32, 114, 97, 110, 103, 101, 32, 91]⟩ ++ (txt a ++ ⟨#[58]⟩ ++ txt b ++ ⟨#[93]⟩))) := hsd
            clear hsd
            simp only [putAll, Act.put, List.setIfInBounds_toArray, List.set_cons_zero, List.set_cons_succ, e11]
            rw [← HSD.out]
            clear e11 hf za zb zc
            go_wp2_with fail
            all_goals go_ret
            exact ⟨by rw [← HSD.out]; rfl, HB.out⟩
        · have r3 : decide (b < a) = false := decide_eq_false q3
          by_cases q4 : a < 0
          · have e : textF ⟨5, a, b, c⟩ = leadB ++ (⟨#[115, 108, 105, 99, 101, 32, 98, 111, 117, 110, 100, 115, 32, 111, 117, 116, 32, 111, 102, 32, 114, 97, 110, 103, 101, 32, 91]⟩ ++ (txt a ++ ⟨#[58, 93]⟩)) := by
              have e0 : toldF ⟨5, a, b, c⟩ = (6, a, 0) := by
                unfold toldF toldB; dsimp only; repeat' split
                all_goals first | rfl | (exfalso; omega)
              unfold textF; rw [e0, if_neg (by simp), said6]
            rw [e]; clear e; unfold leadB
            go_enter Tryd.func6, Tryd.ntmps6
            go_wp2_with fail
            refine (decimal_any a ha _).mono ?_
            rintro e u ⟨rfl, b1⟩
            have HB : Hid (Below w.heap.size w u) := below_up b1
            clear b1
            obtain ⟨ta, hta⟩ : ∃ ta : ByteArray, ta = txt a := ⟨_, rfl⟩
            have HTA : Hid (ta = txt a) := hta
            rw [← hta] at za ⊢
            clear hta
            go_wp2_with fail
            all_goals go_ret
            exact ⟨by rw [← HTA.out]; rfl, HB.out⟩
          · have r4 : decide (a < 0) = false := decide_eq_false q4
            have e : textF ⟨5, a, b, c⟩ = ⟨#[]⟩ := by
              have e0 : toldF ⟨5, a, b, c⟩ = (10, 0, 0) := by
                unfold toldF toldB; dsimp only; repeat' split
                all_goals first | rfl | (exfalso; omega)
              unfold textF; rw [e0, if_pos rfl]
            rw [e]; clear e
            go_enter Tryd.func6, Tryd.ntmps6
            go_wp2_with fail
            go_ret
            exact ⟨rfl, (Below.refl _ _).alloc (Nat.le_refl _) _⟩
  have k1 : decide (k = 1) = false := decide_eq_false h1
  have k2 : decide (k = 2) = false := decide_eq_false h2
  have k3 : decide (k = 3) = false := decide_eq_false h3
  have k4 : decide (k = 4) = false := decide_eq_false h4
  have k5 : decide (k = 5) = false := decide_eq_false h5
  have k6 : decide (k = 6) = false := decide_eq_false h6
  have k7 : decide (k = 7) = false := decide_eq_false h7
  have k8 : decide (k = 8) = false := decide_eq_false h8
  have e : textF ⟨k, a, b, c⟩ = ⟨#[]⟩ := by
    have e0 : toldF ⟨k, a, b, c⟩ = (10, 0, 0) := by
      unfold toldF toldB; dsimp only; repeat' split
      all_goals first | rfl | (exfalso; omega)
    unfold textF; rw [e0, if_pos rfl]
  rw [e]; clear e
  go_enter Tryd.func6, Tryd.ntmps6
  go_wp2_with fail
  go_ret
  exact ⟨rfl, (Below.refl _ _).alloc (Nat.le_refl _) _⟩
end Go.Proofs.YtjmklmcnlieplaaDoor
