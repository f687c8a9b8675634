/- What types.reader's oneType does; goThrough, Valid. -/
import Derived.Test.YtmcechcigehjbaaOne
namespace Go.Proofs.Ytmcechcigehjbaa
open Go.ChangeShapes Go.WideShapes Go.ChangeAt Go.RowKit
set_option maxRecDepth 100000
set_option linter.unusedSimpArgs false

/-- The parts of the type that a text begins with. -/
def tlP (n : Nat) (l : Tx) : List (Nat × ByteArray) := if wordLen l ≠ 0 then [] else tailP (tl n) (l.drop 5)
/-- What oneType leaves. -/
def OnePost (I : List (Nat × ByteArray) → World → Prop) (b p m : Nat) (t : ByteArray) (ps : List (Nat × ByteArray)) (e : Ending) (w' : World) : Prop :=
  e = .returned (.bool (decide (m ≠ 0))) ∧ (m ≠ 0 → Rdr b t (p + m) w' ∧ I ps w') ∧ ∃ ps, I ps w'
theorem onePost_no {I : List (Nat × ByteArray) → World → Prop} {b p : Nat} {t : ByteArray} {ps ps' : List (Nat × ByteArray)} {w' : World} (h : I ps' w') : OnePost I b p 0 t ps (.returned (.bool false)) w' := ⟨rfl, fun h => absurd rfl h, ps', h⟩
theorem onePost_yes {I : List (Nat × ByteArray) → World → Prop} {b p m : Nat} {t : ByteArray} {ps : List (Nat × ByteArray)} {w' : World} (hm : m ≠ 0) (hr : Rdr b t (p + m) w') (h : I ps w') : OnePost I b p m t ps (.returned (.bool true)) w' := by
  have hd : decide (m ≠ 0) = true := by simpa using hm
  exact ⟨by rw [hd], fun _ => ⟨hr, h⟩, ps, h⟩
section
variable {b : Nat} {f : FuncId} {c : Array Value} {I : List (Nat × ByteArray) → World → Prop} (F : Fnd b f c I) (p : Nat) (t : ByteArray) (w : World)
include F
set_option maxHeartbeats 1000000 in
theorem one_word (h : Rdr b t p w) (hp : p ≤ t.size) (ht : t.size ≤ 100) (hI : I [] w) (hw : wordLen (t.data.toList.drop p) ≠ 0) :
    Calls Try.prog 32 #[.pointer (some ⟨b, 0, none⟩), .func (.func f) #[] c] w (OnePost I b p (wordLen (t.data.toList.drop p)) t []) := by
  have HP := own_plain b p t w h hp ht
  have hd : decide (wordLen (t.data.toList.drop p) ≠ 0) = true := by simpa using hw
  rw [hd] at HP
  generalize wordLen (t.data.toList.drop p) = m at *
  have HPL : Hid (Calls Try.prog 38 #[.pointer (some ⟨b, 0, none⟩)] w fun e w' => e = .returned (.bool true) ∧ Rdr b t (p + m) w' ∧ w.grownBy w' (some b)) := HP
  have HI : Hid (I [] w) := hI
  have HW : Hid (m ≠ 0) := hw
  clear HP hd hI h hw
  go_enter Try.func32, Try.ntmps32
  go_wp2_with fail
  refine HPL.out.mono ?_
  rintro e w1 ⟨rfl, r1, q1⟩
  have HF : Hid (Rdr b t (p + m) w1 ∧ I [] w1) := ⟨r1, F.keep HI.out q1⟩
  clear r1 q1
  go_wp2_with fail
  go_ret
  exact onePost_yes HW.out HF.out.1 HF.out.2
set_option maxHeartbeats 1000000 in
theorem one_none (h : Rdr b t p w) (hp : p ≤ t.size) (ht : t.size ≤ 100) (hI : I [] w) (hw : wordLen (t.data.toList.drop p) = 0) (hf : wFunc.isPrefixOf (t.data.toList.drop p) = false) :
    Calls Try.prog 32 #[.pointer (some ⟨b, 0, none⟩), .func (.func f) #[] c] w (OnePost I b p 0 t []) := by
  have HP := own_plain b p t w h hp ht
  rw [hw] at HP
  have HPL : Hid (Calls Try.prog 38 #[.pointer (some ⟨b, 0, none⟩)] w fun e w' => e = .returned (.bool false) ∧ Rdr b t p w' ∧ w.grownBy w' (some b)) := HP
  have HI : Hid (I [] w) := hI
  have HF0 : Hid (past t p ⟨#[102, 117, 110, 99, 40]⟩ = false) := hf
  clear HP hI h hw hf
  go_enter Try.func32, Try.ntmps32
  go_wp2_with fail
  refine HPL.out.mono ?_
  rintro e w1 ⟨rfl, r1, q1⟩
  have HF : Hid (Rdr b t p w1 ∧ I [] w1) := ⟨r1, F.keep HI.out q1⟩
  clear r1 q1
  go_wp2_with fail
  refine (take_no HF0.out hp ht _ HF.out.1).mono ?_
  rintro e w2 ⟨rfl, r2, q2⟩
  have HF2 : Hid (I [] w2) := F.keep HF.out.2 q2
  clear r2 q2
  go_wp2_with fail
  go_ret
  exact onePost_no HF2.out
set_option maxHeartbeats 1000000 in
theorem one_func (n : Nat) (ih : OneAt n) (h : Rdr b t p w) (hp : p ≤ t.size) (ht : t.size ≤ 100) (hn : t.size - p ≤ n + 1) (hI : I [] w) (hw : wordLen (t.data.toList.drop p) = 0) (hf : wFunc.isPrefixOf (t.data.toList.drop p) = true) :
    Calls Try.prog 32 #[.pointer (some ⟨b, 0, none⟩), .func (.func f) #[] c] w (OnePost I b p (fin 5 (tail (tl n) ((t.data.toList.drop p).drop 5))) t (tailP (tl n) ((t.data.toList.drop p).drop 5))) := by
  have HP := own_plain b p t w h hp ht
  rw [hw] at HP
  have HPL : Hid (Calls Try.prog 38 #[.pointer (some ⟨b, 0, none⟩)] w fun e w' => e = .returned (.bool false) ∧ Rdr b t p w' ∧ w.grownBy w' (some b)) := HP
  have HI : Hid (I [] w) := hI
  have HF0 : Hid (past t p ⟨#[102, 117, 110, 99, 40]⟩ = true) := hf
  have hp5 : p + 5 ≤ t.size := past_le (x := ⟨#[102, 117, 110, 99, 40]⟩) hf hp
  rw [List.drop_drop]
  have HPA : Hid (∀ W, Rdr b t (p + 5) W → I [] W → _) := fun W hW hP => own_params n ih F (p + 5) t W hW hp5 ht (by omega) hP
  have hmle := params_le (tl_le n) (t.data.toList.drop (p + 5))
  rw [List.length_drop, bsize_list] at hmle
  have HLN : Hid ((paramsP (tl n) (t.data.toList.drop (p + 5))).length ≤ 4) := paramsP_len _ _
  clear HP hI h hw hf
  unfold tail tailP
  rw [List.drop_drop]
  by_cases hm : params (tl n) (t.data.toList.drop (p + 5)) = 0
  · rw [if_pos hm]
    have hd : decide (params (tl n) (t.data.toList.drop (p + 5)) ≠ 0) = false := by simpa using hm
    rw [hd] at HPA
    clear hm hd HLN
    go_enter Try.func32, Try.ntmps32
    go_wp2_with fail
    refine HPL.out.mono ?_
    rintro e w1 ⟨rfl, r1, q1⟩
    have HF : Hid (Rdr b t p w1 ∧ I [] w1) := ⟨r1, F.keep HI.out q1⟩
    clear r1 q1
    go_wp2_with fail
    refine (take_yes HF0.out hp ht _ HF.out.1).mono ?_
    rintro e w2 ⟨rfl, r2, q2⟩
    have HF2 : Hid (Rdr b t (p + 5) w2 ∧ I [] w2) := ⟨r2, F.keep HF.out.2 q2⟩
    clear r2 q2
    go_wp2_with fail
    refine (HPA.out _ HF2.out.1 HF2.out.2).mono ?_
    rintro e w3 ⟨rfl, -, ps3, i3⟩
    have HI3 : Hid (I ps3 w3) := i3
    clear i3
    go_wp2_with fail
    go_ret
    exact onePost_no HI3.out
  · rw [if_neg hm]
    have hd : decide (params (tl n) (t.data.toList.drop (p + 5)) ≠ 0) = true := by simpa using hm
    rw [hd] at HPA
    have HM : Hid (params (tl n) (t.data.toList.drop (p + 5)) ≠ 0) := hm
    have HRS : Hid (∀ W, Rdr b t (p + 5 + params (tl n) (t.data.toList.drop (p + 5))) W → I (paramsP (tl n) (t.data.toList.drop (p + 5))) W → _) := fun W hW hP => own_result n ih F (p + 5 + params (tl n) (t.data.toList.drop (p + 5))) t W hW (by omega) ht (by omega) _ HLN.out hP
    clear hm hd HLN
    generalize params (tl n) (t.data.toList.drop (p + 5)) = m at *
    generalize paramsP (tl n) (t.data.toList.drop (p + 5)) = ps at *
    cases hr : res (tl n) (t.data.toList.drop (p + 5 + m)) with
    | none =>
      rw [hr] at HRS
      clear hr
      go_enter Try.func32, Try.ntmps32
      go_wp2_with fail
      refine HPL.out.mono ?_
      rintro e w1 ⟨rfl, r1, q1⟩
      have HF : Hid (Rdr b t p w1 ∧ I [] w1) := ⟨r1, F.keep HI.out q1⟩
      clear r1 q1
      go_wp2_with fail
      refine (take_yes HF0.out hp ht _ HF.out.1).mono ?_
      rintro e w2 ⟨rfl, r2, q2⟩
      have HF2 : Hid (Rdr b t (p + 5) w2 ∧ I [] w2) := ⟨r2, F.keep HF.out.2 q2⟩
      clear r2 q2
      go_wp2_with fail
      refine (HPA.out _ HF2.out.1 HF2.out.2).mono ?_
      rintro e w3 ⟨rfl, i3, -⟩
      have HF3 : Hid (Rdr b t (p + 5 + m) w3 ∧ I ps w3) := i3 HM.out
      clear i3
      go_wp2_with fail
      refine (HRS.out _ HF3.out.1 HF3.out.2).mono ?_
      rintro e w4 ⟨rfl, -, ps4, i4⟩
      have HI4 : Hid (I ps4 w4) := i4
      clear i4
      unfold resOk
      go_wp2_with fail
      go_ret
      exact onePost_no HI4.out
    | some r =>
      rw [hr] at HRS
      have HFN : Hid (p + fin 5 (m + r) = p + 5 + m + r ∧ fin 5 (m + r) ≠ 0) := by have h1 := HM.out; rw [fin_pos (by omega)]; exact ⟨by omega, by omega⟩
      generalize resP (tl n) (t.data.toList.drop (p + 5 + m)) = qs at *
      clear hr
      simp only
      generalize fin 5 (m + r) = z at *
      go_enter Try.func32, Try.ntmps32
      go_wp2_with fail
      refine HPL.out.mono ?_
      rintro e w1 ⟨rfl, r1, q1⟩
      have HF : Hid (Rdr b t p w1 ∧ I [] w1) := ⟨r1, F.keep HI.out q1⟩
      clear r1 q1
      go_wp2_with fail
      refine (take_yes HF0.out hp ht _ HF.out.1).mono ?_
      rintro e w2 ⟨rfl, r2, q2⟩
      have HF2 : Hid (Rdr b t (p + 5) w2 ∧ I [] w2) := ⟨r2, F.keep HF.out.2 q2⟩
      clear r2 q2
      go_wp2_with fail
      refine (HPA.out _ HF2.out.1 HF2.out.2).mono ?_
      rintro e w3 ⟨rfl, i3, -⟩
      have HF3 : Hid (Rdr b t (p + 5 + m) w3 ∧ I ps w3) := i3 HM.out
      clear i3
      go_wp2_with fail
      refine (HRS.out _ HF3.out.1 HF3.out.2).mono ?_
      rintro e w4 ⟨rfl, i4, -⟩
      have HF4 : Hid (Rdr b t (p + z) w4 ∧ I (ps ++ qs) w4) := by rw [HFN.out.1]; exact i4 r rfl
      clear i4
      unfold resOk
      go_wp2_with fail
      go_ret
      exact onePost_yes HFN.out.2 HF4.out.1 HF4.out.2
theorem own_one (n : Nat) (ih : OneAt n) (h : Rdr b t p w) (hp : p ≤ t.size) (ht : t.size ≤ 100) (hn : t.size - p ≤ n + 1) (hI : I [] w) :
    Calls Try.prog 32 #[.pointer (some ⟨b, 0, none⟩), .func (.func f) #[] c] w (OnePost I b p (tl (n + 1) (t.data.toList.drop p)) t (tlP n (t.data.toList.drop p))) := by
  by_cases hw : wordLen (t.data.toList.drop p) ≠ 0
  · rw [tl, if_pos hw, tlP, if_pos hw]
    exact one_word F p t w h hp ht hI hw
  · rw [tl, if_neg hw, tlP, if_neg hw]
    have hw' : wordLen (t.data.toList.drop p) = 0 := by simpa using hw
    cases hf : wFunc.isPrefixOf (t.data.toList.drop p) with
    | false =>
      rw [if_neg (by simp)]
      refine (one_none F p t w h hp ht hI hw' hf).mono fun e w' h => ⟨h.1, fun h => absurd rfl h, h.2.2⟩
    | true =>
      rw [if_pos rfl]
      exact one_func F p t w n ih h hp ht hn hI hw' hf
end
theorem enters {f : FuncId} {fn : Func} {c : Code} (hf : Try.prog.funcs[f]? = some fn) (hname : (fn.name == "runtime.NumGoroutine") = false) (hb : fn.body = some c) (args : Array Value) (w : World) :
    (callFunc f args).run Try.prog w = .ok (.enter f args) w := by
  have h1 : fn.name ≠ "runtime.NumGoroutine" := by simpa using hname
  simp [callFunc, hf, h1, hb]
theorem pass_run : ∀ args W, (callFunc 23 args).run Try.prog W = .ok (.enter 23 args) W := fun args W => enters Try.func23 (by kernel_rfl) rfl args W
theorem pass_fnd (b : Nat) (w0 : World) : Fnd b 23 #[] (fun _ w => w0.grownBy w (some b)) := by
  refine ⟨pass_run, fun h g => gb_trans h g, fun ps k s w _ _ _ _ hI => ?_⟩
  have HI : Hid (w0.grownBy w (some b)) := hI
  clear hI
  go_enter Try.func23, Try.ntmps23
  go_wp2
  go_end0
  exact ⟨rfl, HI.out, rfl⟩
theorem one_at (n : Nat) : OneAt n := by
  induction n with
  | zero =>
    intro b p t w h hp ht hn
    have hl : t.data.toList.drop p = [] := by rw [List.drop_eq_nil_iff, bsize_list]; omega
    refine (one_none (pass_fnd b w) p t w h hp ht (World.grownBy.refl _ _) (by rw [hl]; rfl) (by rw [hl]; rfl)).mono fun e w' h => ⟨h.1, fun h => absurd rfl h, h.2.2.elim fun _ k => k⟩
  | succ n ih =>
    intro b p t w h hp ht hn
    refine (own_one (pass_fnd b w) p t w n ih h hp ht hn (World.grownBy.refl _ _)).mono fun e w' h => ⟨h.1, fun k => (h.2.1 k).1, h.2.2.elim fun _ k => k⟩
end Go.Proofs.Ytmcechcigehjbaa
