/- What report reads of a line. -/
import Derived.Test.YtncjaohiimenaabDoorRcrash
import Derived.Test.YtncjaohiimenaabDoorOwnunq
import Derived.Test.YtncjaohiimenaabDoorConv
import Derived.Lib.IndexMore
namespace Go.Proofs.YtncjaohiimenaabDoor
open Go.ChangeShapes Go.WideShapes Go.ChangeAt Go.RowKit
set_option maxRecDepth 100000
set_option linter.unusedSimpArgs false
set_option linter.unusedVariables false
/-- A text, cut at its first line's end. -/
def brk : List UInt8 → List UInt8 × List UInt8 × Bool
  | [] => ([], [], false)
  | c :: r => if c = 10 then ([], r, true) else (c :: (brk r).1, (brk r).2.1, (brk r).2.2)
theorem brk_len : ∀ l : List UInt8, (brk l).2.1.length ≤ l.length ∧ (l ≠ [] → (brk l).2.1.length < l.length) ∧ (brk l).1.length ≤ l.length
  | [] => by simp [brk]
  | c :: r => by
    have ih := brk_len r
    unfold brk
    split
    · simp
    · simp only [List.length_cons]
      omega
theorem brk_index : ∀ l : List UInt8, (Lib.indexByte l 10 = -1 ∧ brk l = (l, [], false)) ∨ ∃ i : Nat, i < l.length ∧ Lib.indexByte l 10 = (i : Int) ∧ brk l = (l.take i, l.drop (i + 1), true)
  | [] => .inl ⟨rfl, rfl⟩
  | c :: r => by
    unfold Lib.indexByte brk
    by_cases hc : c = 10
    · subst hc
      exact .inr ⟨0, by simp, by simp, by simp⟩
    · have hb : (c == 10) = false := by simpa using hc
      rw [hb, if_neg hc]
      rcases brk_index r with ⟨h1, h2⟩ | ⟨i, h1, h2, h3⟩
      · refine .inl ⟨by rw [h1]; rfl, by rw [h2]⟩
      · refine .inr ⟨i + 1, by rw [List.length_cons]; omega, ?_, by rw [h3]; simp⟩
        rw [h2]
        have hne : ((i : Int) == -1) = false := by rw [beq_eq_false_iff_ne]; omega
        rw [hne]
        simp
theorem own_slcut (s : ByteArray) (w : World) (hs : s.size ≤ 4611686018427387904) :
    Calls Tryd.prog 22 #[.string s, .string ⟨#[10]⟩] w fun e w' => e = .returned (.tuple #[.string ⟨(brk s.data.toList).1.toArray⟩, .string ⟨(brk s.data.toList).2.1.toArray⟩, .bool (brk s.data.toList).2.2]) ∧ ∃ n, w' = w.drewN n := by
  have HIX : Hid (∀ u, Calls Tryd.prog 31 #[.string s, .string ⟨#[10]⟩] u fun e w' => e = .returned (.int .i64 (Lib.indexByte s.data.toList 10)) ∧ w' = u) := fun u => Tryd.stringslite_Index_one s 10 u
  have hl : s.data.toList.length = s.size := bsize_list s
  rcases brk_index s.data.toList with ⟨h1, h2⟩ | ⟨i, h1, h2, h3⟩
  · rw [h2]
    rw [h1] at HIX
    have e1 : (⟨s.data.toList.toArray⟩ : ByteArray) = s := (str_of (s := s) rfl).symm
    rw [e1]
    clear h1 h2 hl e1
    go_enter Tryd.func22, Tryd.ntmps22
    go_wp2_with fail
    refine Calls.mono (HIX.out _) ?_
    rintro e w1 ⟨rfl, rfl⟩
    go_wp2_with fail
    refine bodyPost_ret (v := .tuple #[.string s, .string ⟨#[]⟩, .bool false]) (by simp [results, Tryd.results22, go_sem]) rfl ⟨rfl, 0, by rw [World.drewN_zero]⟩
  · rw [h3]
    rw [h2] at HIX
    have e1 : (⟨(s.data.toList.take i).toArray⟩ : ByteArray) = s.extract 0 i := (str_of (by rw [ByteArray.data_extract, Array.toList_extract]; simp)).symm
    have e2 : (⟨(s.data.toList.drop (i + 1)).toArray⟩ : ByteArray) = s.extract (i + 1) s.size := by
      refine (str_of ?_).symm
      rw [ByteArray.data_extract, Array.toList_extract]
      simp only [List.extract_eq_take_drop]
      rw [List.take_of_length_le (by rw [List.length_drop, hl]; omega)]
    rw [e1, e2]
    have hi : i < s.size := by omega
    clear h1 h2 h3 hl e1 e2
    have hi0 : (0 : Int) ≤ (i : Int) := by omega
    have hii : (i : Int) < (s.size : Int) := by omega
    go_enter Tryd.func22, Tryd.ntmps22
    go_wp2_with fail
    refine Calls.mono (HIX.out _) ?_
    rintro e w1 ⟨rfl, rfl⟩
    go_wp2_with fail
    go_quiet (fail)
    go_wp2_with fail
    refine bodyPost_ret (v := .tuple #[.string (s.extract 0 i), .string (s.extract (i + 1) s.size), .bool true]) (by simp [results, Tryd.results22, go_sem]) rfl ⟨rfl, _, rfl⟩
theorem own_cut (s : ByteArray) (w : World) (hs : s.size ≤ 4611686018427387904) :
    Calls Tryd.prog 16 #[.string s, .string ⟨#[10]⟩] w fun e w' => e = .returned (.tuple #[.string ⟨(brk s.data.toList).1.toArray⟩, .string ⟨(brk s.data.toList).2.1.toArray⟩, .bool (brk s.data.toList).2.2]) ∧ ∃ n, w' = w.drewN n := by
  have HC : Hid (∀ u, Calls Tryd.prog 22 #[.string s, .string ⟨#[10]⟩] u fun e w' => e = .returned (.tuple #[.string ⟨(brk s.data.toList).1.toArray⟩, .string ⟨(brk s.data.toList).2.1.toArray⟩, .bool (brk s.data.toList).2.2]) ∧ ∃ n, w' = u.drewN n) := fun u => own_slcut s u hs
  generalize (⟨(brk s.data.toList).1.toArray⟩ : ByteArray) = b1 at *
  generalize (⟨(brk s.data.toList).2.1.toArray⟩ : ByteArray) = b2 at *
  generalize (brk s.data.toList).2.2 = b3 at *
  go_enter Tryd.func16, Tryd.ntmps16
  go_wp2_with fail
  refine Calls.mono (HC.out _) ?_
  rintro e w1 ⟨rfl, n, rfl⟩
  go_wp2_with fail
  refine bodyPost_ret (v := .tuple #[.string b1, .string b2, .bool b3]) (by simp [results, Tryd.results16, go_sem]) rfl ⟨rfl, n, rfl⟩
def errLead : ByteArray := ⟨#[114, 117, 110, 116, 105, 109, 101, 32, 101, 114, 114, 111, 114, 58, 32]⟩
/-- The value that is told so. -/
def readV (t : ByteArray) : Option Vv := if rdE t = 0 then some ⟨1, rdN t, ⟨#[]⟩, []⟩ else if uqE t.data.toList = 0 then some ⟨3, 0, ⟨(uqS t.data.toList).toArray⟩, []⟩ else if Lib.hasPrefix t.data.toList errLead.data.toList = true then some ⟨5, 0, t, []⟩ else none
def optV : Option Vv → Value
  | some x => .tuple #[vval x (.slice none 0 0), .bool true]
  | none => .tuple #[vval ⟨0, 0, ⟨#[]⟩, []⟩ (.slice none 0 0), .bool false]
theorem uqE_is (l : List UInt8) : uqE l = 0 ∨ uqE l = 4 := by rcases uqS_of l with h | h; exact .inl h.2.2.2; exact .inr h.2.2
theorem rdE_is (s : ByteArray) : rdE s = 0 ∨ rdE s = 3 := by
  unfold rdE
  split
  · split
    · exact .inl rfl
    · exact .inr rfl
  · exact .inr rfl
set_option maxHeartbeats 4000000 in
theorem own_readValue (t : ByteArray) (w : World) (hs : t.size ≤ 4398046511104) (hl : Lib3 w) :
    Calls Tryd.prog 25 #[.string t] w fun e w' => e = .returned (optV (readV t)) ∧ Below w.heap.size w w' := by
  have HR : Hid (∀ u, Below w.heap.size w u → Calls Tryd.prog 34 #[.string t] u fun e w' => e = .returned (.tuple #[.int .i64 (rdN t), .int .i64 (rdE t)]) ∧ Below u.heap.size u w') := fun u hu => read_any t (by omega) u (hl.below hu)
  have HU : Hid (∀ u, Calls Tryd.prog 35 #[.string t] u fun e w' => e = .returned (.tuple #[.string ⟨(uqS t.data.toList).toArray⟩, .int .i64 (uqE t.data.toList)]) ∧ Below u.heap.size u w') := fun u => own_unquote t u (by unfold maxLen; omega)
  have HP : Hid (∀ u, Calls Tryd.prog 36 #[.string t, .string ⟨#[114, 117, 110, 116, 105, 109, 101, 32, 101, 114, 114, 111, 114, 58, 32]⟩] u fun e w' => e = .returned (.bool (Lib.hasPrefix t.data.toList errLead.data.toList)) ∧ w' = u) := fun u => Tryd.strings_HasPrefix t errLead u
  have h3 := rdE_is t
  have h4 := uqE_is t.data.toList
  clear hl
  unfold readV
  generalize rdN t = rn at *
  generalize rdE t = re at *
  generalize (⟨(uqS t.data.toList).toArray⟩ : ByteArray) = us at *
  generalize uqE t.data.toList = ue at *
  generalize Lib.hasPrefix t.data.toList errLead.data.toList = hp at *
  have HX : Hid (∀ u, Below (w.alloc (.cells #[.int .i64 0, .int .i64 0, .string ⟨#[]⟩, .slice none 0 0] 25)).heap.size (w.alloc (.cells #[.int .i64 0, .int .i64 0, .string ⟨#[]⟩, .slice none 0 0] 25)) u → u.heap[w.heap.size]? = some (.cells #[.int .i64 0, .int .i64 0, .string ⟨#[]⟩, .slice none 0 0] 25 (0, 0))) := fun u hu => box_stays hu
  have HB0 : Hid (Below w.heap.size w (w.alloc (.cells #[.int .i64 0, .int .i64 0, .string ⟨#[]⟩, .slice none 0 0] 25))) := show_below
  by_cases e0 : re = 0
  · subst e0
    rw [if_pos rfl]
    clear h3 h4
    go_enter Tryd.func25, Tryd.ntmps25
    go_wp2_with fail
    refine Calls.mono (HR.out _ HB0.out) ?_
    rintro e w1 ⟨rfl, hb1⟩
    have HB1 : Hid (Below w.heap.size w w1) := below_up hb1
    obtain ⟨⟨c0, c1, c2, c3⟩, ⟨f0, f1, f2, f3⟩⟩ := box4 (HX.out _ hb1)
    clear hb1 HX
    go_wp2_with fail
    refine bodyPost_ret (v := optV (some ⟨1, rn, ⟨#[]⟩, []⟩)) (by simp [optV, vval, results, Tryd.results25, go_sem, c0, c1, c2, c3]) rfl ⟨rfl, ?_⟩
    exact (((HB1.out.setCell (Nat.le_refl _) _).setCell (Nat.le_refl _) _).setCell (Nat.le_refl _) _).setCell (Nat.le_refl _) _
  · have hre : re = 3 := by omega
    subst hre
    rw [if_neg (by decide)]
    clear h3 e0
    by_cases e1 : ue = 0
    · subst e1
      rw [if_pos rfl]
      clear h4
      go_enter Tryd.func25, Tryd.ntmps25
      go_wp2_with fail
      refine Calls.mono (HR.out _ HB0.out) ?_
      rintro e w1 ⟨rfl, hb1⟩
      have HB1 : Hid (Below w.heap.size w w1) := below_up hb1
      have HY1 := Hid.mk' hb1
      clear hb1
      go_wp2_with fail
      refine Calls.mono (HU.out _) ?_
      rintro e w2 ⟨rfl, hb2⟩
      have HB2 : Hid (Below w.heap.size w w2) := HB1.out.trans (hb2.mono HB1.out.size)
      obtain ⟨⟨c0, c1, c2, c3⟩, ⟨f0, f1, f2, f3⟩⟩ := box4 (HX.out _ (HY1.out.trans (hb2.mono HY1.out.size)))
      clear hb2 HX
      go_wp2_with fail
      refine bodyPost_ret (v := optV (some ⟨3, 0, us, []⟩)) (by simp [optV, vval, results, Tryd.results25, go_sem, c0, c1, c2, c3]) rfl ⟨rfl, ?_⟩
      exact (((HB2.out.setCell (Nat.le_refl _) _).setCell (Nat.le_refl _) _).setCell (Nat.le_refl _) _).setCell (Nat.le_refl _) _
    · have hue : ue = 4 := by omega
      subst hue
      rw [if_neg (by decide)]
      clear h4 e1
      cases hp with
      | true =>
        rw [if_pos rfl]
        go_enter Tryd.func25, Tryd.ntmps25
        go_wp2_with fail
        refine Calls.mono (HR.out _ HB0.out) ?_
        rintro e w1 ⟨rfl, hb1⟩
        have HB1 : Hid (Below w.heap.size w w1) := below_up hb1
        have HY1 := Hid.mk' hb1
        clear hb1
        go_wp2_with fail
        refine Calls.mono (HU.out _) ?_
        rintro e w2 ⟨rfl, hb2⟩
        have HB2 : Hid (Below w.heap.size w w2) := HB1.out.trans (hb2.mono HB1.out.size)
        obtain ⟨⟨c0, c1, c2, c3⟩, ⟨f0, f1, f2, f3⟩⟩ := box4 (HX.out _ (HY1.out.trans (hb2.mono HY1.out.size)))
        clear hb2 HX
        go_wp2_with fail
        refine Calls.mono (HP.out _) ?_
        rintro e w3 ⟨rfl, rfl⟩
        go_wp2_with fail
        refine bodyPost_ret (v := optV (some ⟨5, 0, t, []⟩)) (by simp [optV, vval, results, Tryd.results25, go_sem, c0, c1, c2, c3]) rfl ⟨rfl, ?_⟩
        exact (((HB2.out.setCell (Nat.le_refl _) _).setCell (Nat.le_refl _) _).setCell (Nat.le_refl _) _).setCell (Nat.le_refl _) _
      | false =>
        rw [if_neg (by decide)]
        go_enter Tryd.func25, Tryd.ntmps25
        go_wp2_with fail
        refine Calls.mono (HR.out _ HB0.out) ?_
        rintro e w1 ⟨rfl, hb1⟩
        have HB1 : Hid (Below w.heap.size w w1) := below_up hb1
        have HY1 := Hid.mk' hb1
        clear hb1
        go_wp2_with fail
        refine Calls.mono (HU.out _) ?_
        rintro e w2 ⟨rfl, hb2⟩
        have HB2 : Hid (Below w.heap.size w w2) := HB1.out.trans (hb2.mono HB1.out.size)
        obtain ⟨⟨c0, c1, c2, c3⟩, ⟨f0, f1, f2, f3⟩⟩ := box4 (HX.out _ (HY1.out.trans (hb2.mono HY1.out.size)))
        clear hb2 HX
        go_wp2_with fail
        refine Calls.mono (HP.out _) ?_
        rintro e w3 ⟨rfl, rfl⟩
        go_wp2_with fail
        refine bodyPost_ret (v := optV none) (by simp [optV, vval, results, Tryd.results25, go_sem, c0, c1, c2, c3]) rfl ⟨rfl, ?_⟩
        exact (((HB2.out.setCell (Nat.le_refl _) _).setCell (Nat.le_refl _) _).setCell (Nat.le_refl _) _).setCell (Nat.le_refl _) _
end Go.Proofs.YtncjaohiimenaabDoor
