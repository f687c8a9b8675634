/- What report tells of a value. -/
import Derived.Test.YtncjaohiimenaabDoorOwnquote
import Derived.Test.YtncjaohiimenaabDoorVshow
namespace Go.Proofs.YtncjaohiimenaabDoor
open Go.ChangeShapes Go.WideShapes Go.ChangeAt Go.RowKit
set_option maxRecDepth 100000
set_option linter.unusedSimpArgs false
set_option linter.unusedVariables false
theorem Hid.mk' {P : Prop} (h : P) : Hid P := h
theorem owns_on {w w' : World} {B e s n : Nat} {v : Value} {xs : List Value} (h : w.ownsRow B e s v n xs) (hb : Below w.heap.size w w') : w'.ownsRow B e s v n xs := by
  refine ⟨h.1, ?_⟩
  rcases h.2 with h0 | ⟨g, cap, cur, h1, h2, h3, h4⟩
  · exact .inl h0
  · exact .inr ⟨g, cap, cur, h1, h2, by rw [hb.block g (Array.getElem?_eq_some_iff.1 h3).1]; exact h3, h4⟩
theorem bld_below {B b : Nat} {l : List UInt8} {w w' : World} (h : Bld B b l w) (hb : Below w.heap.size w w') : Bld B b l w' := by
  have key : ∀ {p : Value} {bs : List Value}, Lib.BuilderAt 42 5 B b p bs w → Lib.BuilderAt 42 5 B b p bs w' := fun {p bs} h => by
    obtain ⟨h1, v, h2, h3, h4⟩ := h
    exact ⟨h1, v, (hb.block _ (Array.getElem?_eq_some_iff.1 h2).1).trans h2, owns_on h3 hb, h4⟩
  rcases h with h | h
  · exact .inl (key h)
  · exact .inr (key h)
/-- What stands in quotes for a byte. -/
def tPiece (c : UInt8) : List UInt8 := if okB c then qPiece c else [63]
def tBody (l : List UInt8) : List UInt8 := l.flatMap tPiece
def tQuote (l : List UInt8) : List UInt8 := 34 :: (tBody l ++ [34])
def tByte (c : UInt8) : UInt8 := if c.toNat < 32 ∨ 126 < c.toNat then 63 else c
def tPlain (l : List UInt8) : List UInt8 := l.map tByte
/-- How a panic's value is told. -/
def textV (x : Vv) : ByteArray := if x.kind = 1 then txt x.n else if x.kind = 3 then ⟨(tQuote x.s.data.toList).toArray⟩ else if x.kind = 5 then ⟨(tPlain x.s.data.toList).toArray⟩ else ⟨#[63]⟩
theorem tPiece_le (c : UInt8) : (tPiece c).length ≤ 2 := by
  unfold tPiece
  split
  · exact qPiece_le c
  · simp
theorem tBody_snoc (l : List UInt8) (c : UInt8) : tBody (l ++ [c]) = tBody l ++ tPiece c := by simp [tBody]
theorem tBody_le (l : List UInt8) : (tBody l).length ≤ 2 * l.length := by
  induction l with
  | nil => simp [tBody]
  | cons a l ih =>
    have e : tBody (a :: l) = tPiece a ++ tBody l := by simp [tBody]
    have := tPiece_le a
    rw [e, List.length_append, List.length_cons]; omega
theorem qPiece_pos (c : UInt8) : 1 ≤ (qPiece c).length := by
  unfold qPiece
  split; · simp
  split; · simp
  split <;> simp
theorem one_list {s : ByteArray} {c : UInt8} (h : s.data.toList = [c]) : s.size = 1 := by rw [← bsize_list, h]; rfl
theorem own_quoteByte (s : ByteArray) (c : UInt8) (w : World) (h : s.data.toList = [c]) :
    Calls Tryd.prog 30 #[.string s] w fun e w' => e = .returned (.string ⟨(tPiece c).toArray⟩) ∧ Below w.heap.size w w' := by
  have HQ : Hid (Calls Tryd.prog 39 #[.string s] w fun e w' => e = .returned (.tuple #[.string ⟨(qS [c]).toArray⟩, .int .i64 (qE [c])]) ∧ Below w.heap.size w w') := by
    have := own_quote s w (by rw [one_list h]; decide)
    rwa [h] at this
  unfold tPiece
  cases hc : okB c with
  | true =>
    have h1 : qS [c] = 34 :: (qPiece c ++ [34]) := by simp [qS, hc, qBody]
    have h2 : qE [c] = 0 := by simp [qE, hc]
    rw [h1, h2] at HQ
    have hpos := qPiece_pos c
    have hle := qPiece_le c
    rw [if_pos rfl]
    obtain ⟨Q, hQ⟩ : ∃ Q : ByteArray, Q = ⟨(34 :: (qPiece c ++ [34])).toArray⟩ := ⟨_, rfl⟩
    have hz : Q.size = (qPiece c).length + 2 := by rw [hQ]; show (34 :: (qPiece c ++ [34])).toArray.size = _; simp
    have HEX : Hid (Q.extract 1 ((qPiece c).length + 2 - 1) = ⟨(qPiece c).toArray⟩) := by
      show _ = _
      apply str_of
      rw [ByteArray.data_extract, Array.toList_extract, hQ]
      simp
    rw [← hQ] at HQ
    clear hQ h1 h2 hc
    go_enter Tryd.func30, Tryd.ntmps30
    go_wp2_with fail
    refine Calls.mono HQ.out ?_
    rintro e w1 ⟨rfl, hb⟩
    go_wp2_with fail
    go_ret
    exact ⟨by rw [← HEX.out]; rfl, hb⟩
  | false =>
    have h1 : qS [c] = [] := by simp [qS, hc]
    have h2 : qE [c] = 4 := by simp [qE, hc]
    rw [h1, h2] at HQ
    rw [if_neg (by decide)]
    clear h1 h2 hc
    go_enter Tryd.func30, Tryd.ntmps30
    go_wp2_with fail
    refine Calls.mono HQ.out ?_
    rintro e w1 ⟨rfl, hb⟩
    go_wp2_with fail
    go_ret
    exact ⟨rfl, hb⟩
set_option maxHeartbeats 2000000 in
theorem own_rquote (s : ByteArray) (w : World) (hs : s.size ≤ 4398046511104) :
    Calls Tryd.prog 20 #[.string s] w fun e w' => e = .returned (.string ⟨(tQuote s.data.toList).toArray⟩) ∧ Below w.heap.size w w' := by
  have HG : Hid (∀ (k : Nat) (h : k < s.size), s.data.toList[k]? = some s[k]) := fun k h => by rw [get_list s k h, List.getElem?_eq_getElem]
  have HZ : Hid (s.data.toList.length = s.size) := bsize_list s
  have HSL : Hid (∀ (k : Nat) (h : k < s.size) (W : World), (Instr.slice 9 (.string s) (some (.int .i64 (k : Int))) (some (.int .i64 ((k : Int) + 1))) none).run Tryd.prog W = .ok (.string (s.extract k (k + 1))) W) := fun k h W => slice_one s k h W
  have HQB : Hid (∀ (k : Nat) (h : k < s.size) (u : World), Calls Tryd.prog 30 #[.string (s.extract k (k + 1))] u fun e w' => e = .returned (.string ⟨(tPiece s[k]).toArray⟩) ∧ Below u.heap.size u w') := fun k h u => own_quoteByte _ _ u (by have := ext_one s k h; rwa [ByteArray.toList_eq] at this)
  generalize s.data.toList = l at *
  go_enter Tryd.func20, Tryd.ntmps20
  go_wp2_with fail
  refine (writeByte_any w.heap.size w.heap.size [] 34 _ (bld_new w) (by decide) (by simp)).mono ?_
  rintro e w1 ⟨rfl, b1, f1⟩
  have HB1 : Hid (Bld w.heap.size w.heap.size (34 :: tBody (l.take 0)) w1 ∧ Below w.heap.size w w1) := ⟨b1, ((Below.refl _ w).alloc (Nat.le_refl _) _).trans f1⟩
  clear b1 f1
  go_wp2_with fail
  go_loopw [8] (fun i wr => ∃ (k : Nat) (u : List UInt8), k ≤ s.size ∧ i = .int .i64 k ∧ u.length ≤ 2 * k + 1 ∧ Hid (Bld w.heap.size w.heap.size u wr ∧ u = 34 :: tBody (l.take k) ∧ Below w.heap.size w wr)) (fun i _ => s.size - (intOf i).toNat)
  case atStart => exact ⟨0, [34], Nat.zero_le _, rfl, by simp, HB1.out.1, by simp [tBody], HB1.out.2⟩
  case round =>
    obtain ⟨k, u, hk, rfl, hu, HU⟩ := hrel
    obtain ⟨wq, hwq⟩ : ∃ x, x = wr := ⟨_, rfl⟩
    subst hwq
    have hsz : w.heap.size ≤ wq.heap.size := HU.out.2.2.size
    by_cases hlt : k < s.size
    · have HT : Hid (l.take (k + 1) = l.take k ++ [s[k]]) := take_at (HG.out k hlt)
      have hsl := HSL.out k hlt
      have HQK : Hid _ := HQB.out k hlt wq
      have HN : Hid (u ++ (⟨(tPiece s[k]).toArray⟩ : ByteArray).data.toList = 34 :: tBody (l.take (k + 1))) := by
        show _ = _
        rw [HT.out, tBody_snoc, HU.out.2.1]; rfl
      have hpl : (⟨(tPiece s[k]).toArray⟩ : ByteArray).data.toList.length ≤ 2 := tPiece_le s[k]
      have hps : (⟨(tPiece s[k]).toArray⟩ : ByteArray).size ≤ 2 := by rw [← bsize_list]; exact hpl
      generalize (⟨(tPiece s[k]).toArray⟩ : ByteArray) = P at *
      go_wp2_with fail
      refine Calls.mono HQK.out ?_
      rintro e w2 ⟨rfl, hb2⟩
      have HB2 : Hid (Bld w.heap.size w.heap.size u w2 ∧ Below w.heap.size w w2) := ⟨bld_below HU.out.1 hb2, HU.out.2.2.trans (hb2.mono hsz)⟩
      have hsz2 : w.heap.size ≤ w2.heap.size := HB2.out.2.size
      clear hb2
      go_wp2_with fail
      refine (writeString_any w.heap.size w.heap.size u P _ HB2.out.1 (by omega) (by omega) hsz2).mono ?_
      rintro e w3 ⟨rfl, b3, f3⟩
      go_wp2_with fail
      go_roundw
      case rel => exact ⟨k + 1, u ++ P.data.toList, by omega, by go_num, by rw [List.length_append]; omega, b3, HN.out, HB2.out.2.trans f3⟩
      case measure => simp [intOf]; omega
    · obtain rfl : k = s.size := by omega
      have HS : Hid ((⟨(u ++ [34]).toArray⟩ : ByteArray) = ⟨(tQuote l).toArray⟩) := by
        have h1 := HU.out.2.1
        rw [List.take_of_length_le (by have := HZ.out; omega)] at h1
        show _ = _
        rw [h1]; rfl
      go_wp2_with fail
      refine (writeByte_any w.heap.size w.heap.size u 34 _ HU.out.1 (by omega) hsz).mono ?_
      rintro e w2 ⟨rfl, b2, f2⟩
      have hsz2 : w.heap.size ≤ w2.heap.size := Nat.le_trans hsz f2.size
      go_wp2_with fail
      refine (bstr_any w.heap.size w.heap.size (u ++ [34]) _ b2 hsz2).mono ?_
      rintro e w3 ⟨rfl, f3⟩
      rw [HS.out]
      go_wp2_with fail
      go_ret
      exact ⟨rfl, (HU.out.2.2.trans f2).trans f3⟩
set_option maxHeartbeats 2000000 in
theorem own_printable (s : ByteArray) (w : World) (hs : s.size ≤ 4398046511104) :
    Calls Tryd.prog 21 #[.string s] w fun e w' => e = .returned (.string ⟨(tPlain s.data.toList).toArray⟩) ∧ Below w.heap.size w w' := by
  have HG : Hid (∀ (k : Nat) (h : k < s.size), s.data.toList[k]? = some s[k]) := fun k h => by rw [get_list s k h, List.getElem?_eq_getElem]
  have HZ : Hid (s.data.toList.length = s.size) := bsize_list s
  generalize s.data.toList = l at *
  go_enter Tryd.func21, Tryd.ntmps21
  go_wp2_with fail
  go_loopw [8] (fun i wr => ∃ (k : Nat) (u : List UInt8), k ≤ s.size ∧ i = .int .i64 k ∧ u.length = k ∧ Hid (Bld w.heap.size w.heap.size u wr ∧ u = tPlain (l.take k) ∧ Below w.heap.size w wr)) (fun i _ => s.size - (intOf i).toNat)
  case atStart => exact ⟨0, [], Nat.zero_le _, rfl, rfl, bld_new w, by simp [tPlain], (Below.refl _ w).alloc (Nat.le_refl _) _⟩
  case round =>
    obtain ⟨k, u, hk, rfl, hu, HU⟩ := hrel
    obtain ⟨wq, hwq⟩ : ∃ x, x = wr := ⟨_, rfl⟩
    subst hwq
    have hsz : w.heap.size ≤ wq.heap.size := HU.out.2.2.size
    have HUL : Hid (u.length = k) := hu
    have hul : u.length ≤ 35184372088832 := by omega
    clear hu
    by_cases hlt : k < s.size
    · have HT : Hid (l.take (k + 1) = l.take k ++ [s[k]]) := take_at (HG.out k hlt)
      have HN : Hid (u ++ [tByte s[k]] = tPlain (l.take (k + 1))) := by
        show _ = _
        rw [HT.out, HU.out.2.1]; simp [tPlain]
      have HX : Hid ((s[k].toNat < 32 ∨ 126 < s[k].toNat) → tByte s[k] = 63) := fun h => by unfold tByte; rw [if_pos h]
      have HY : Hid (¬ (s[k].toNat < 32 ∨ 126 < s[k].toNat) → tByte s[k] = s[k]) := fun h => by unfold tByte; rw [if_neg h]
      by_cases h32 : (s[k].toNat : Int) < 32
      · have HE : Hid (u ++ (⟨#[63]⟩ : ByteArray).data.toList = tPlain (l.take (k + 1))) := by have := HN.out; rw [HX.out (by omega)] at this; exact this
        go_wp2_with fail
        refine (writeString_any w.heap.size w.heap.size u ⟨#[63]⟩ _ HU.out.1 hul (by decide) hsz).mono ?_
        rintro e w3 ⟨rfl, b3, f3⟩
        go_wp2_with fail
        go_roundw
        case rel => exact ⟨k + 1, _, by omega, by go_num, (by have := HUL.out; simp; omega), b3, HE.out, HU.out.2.2.trans f3⟩
        case measure => simp [intOf]; omega
      · by_cases h126 : 126 < (s[k].toNat : Int)
        · have HE : Hid (u ++ (⟨#[63]⟩ : ByteArray).data.toList = tPlain (l.take (k + 1))) := by have := HN.out; rw [HX.out (by omega)] at this; exact this
          have k32 : decide ((s[k].toNat : Int) < 32) = false := by simpa using h32
          clear h32
          go_wp2_with fail
          refine (writeString_any w.heap.size w.heap.size u ⟨#[63]⟩ _ HU.out.1 hul (by decide) hsz).mono ?_
          rintro e w3 ⟨rfl, b3, f3⟩
          go_wp2_with fail
          go_roundw
          case rel => exact ⟨k + 1, _, by omega, by go_num, (by have := HUL.out; simp; omega), b3, HE.out, HU.out.2.2.trans f3⟩
          case measure => simp [intOf]; omega
        · have HE : Hid (u ++ [s[k]] = tPlain (l.take (k + 1))) := by have := HN.out; rw [HY.out (by omega)] at this; exact this
          have k32 : decide ((s[k].toNat : Int) < 32) = false := by simpa using h32
          have k126 : decide (126 < (s[k].toNat : Int)) = false := by simpa using h126
          clear h32 h126
          go_wp2_with fail
          refine (writeByte_any w.heap.size w.heap.size u s[k] _ HU.out.1 hul hsz).mono ?_
          rintro e w3 ⟨rfl, b3, f3⟩
          go_wp2_with fail
          go_roundw
          case rel => exact ⟨k + 1, _, by omega, by go_num, (by have := HUL.out; simp; omega), b3, HE.out, HU.out.2.2.trans f3⟩
          case measure => simp [intOf]; omega
    · obtain rfl : k = s.size := by omega
      have HS : Hid ((⟨u.toArray⟩ : ByteArray) = ⟨(tPlain l).toArray⟩) := by
        have h1 := HU.out.2.1
        rw [List.take_of_length_le (by have := HZ.out; omega)] at h1
        show _ = _
        rw [h1]
      go_wp2_with fail
      refine (bstr_any w.heap.size w.heap.size u _ HU.out.1 hsz).mono ?_
      rintro e w3 ⟨rfl, f3⟩
      rw [HS.out]
      go_wp2_with fail
      go_ret
      exact ⟨rfl, HU.out.2.2.trans f3⟩
set_option maxHeartbeats 4000000 in
theorem own_text (x : Vv) (L : Value) (w : World) (hi : VIn x) (hm : ILies w L x.l) (hz : x.s.size ≤ 4398046511104) (hp : Pow w) :
    Calls Tryd.prog 13 #[vval x L] w fun e w' => e = .returned (.string (textV x)) ∧ Below w.heap.size w w' := by
  have HP : Hid (∀ u, Below w.heap.size w u → Pow u) := fun u hb => hp.below hb
  have HM : Hid (∀ u, Below w.heap.size w u → ILies u L x.l) := fun u hb => hm.below hb (Nat.le_refl _)
  have HI := Hid.mk' hi
  clear hp hm hi
  unfold textV
  by_cases h1 : x.kind = 1
  · rw [if_pos h1]
    have HV : Hid (∀ u, Below w.heap.size w u → Calls Tryd.prog 19 #[.agg #[.int .i64 x.kind, .int .i64 x.n, .string x.s, L]] u fun e w' => e = .returned (.string (txt x.n)) ∧ Below u.heap.size u w') := fun u hb => by
      have := own_show x L u HI.out (HM.out u hb) (fun h6 => absurd (h1.symm.trans h6) (by decide)) (HP.out u hb)
      rwa [show showV x = txt x.n by unfold showV; rw [if_pos h1]] at this
    unfold vval
    rw [h1] at HV ⊢
    clear h1
    go_enter Tryd.func13, Tryd.ntmps13
    go_wp2_with fail
    refine (HV.out _ show_below).mono ?_
    rintro e w1 ⟨rfl, hb⟩
    go_wp2_with fail
    go_ret
    exact ⟨rfl, below_up hb⟩
  rw [if_neg h1]
  unfold vval
  by_cases h3 : x.kind = 3
  · rw [if_pos h3]
    rw [h3]
    clear h1 h3
    go_enter Tryd.func13, Tryd.ntmps13
    go_wp2_with fail
    refine (own_rquote x.s _ hz).mono ?_
    rintro e w1 ⟨rfl, hb⟩
    go_wp2_with fail
    go_ret
    exact ⟨rfl, below_up hb⟩
  rw [if_neg h3]
  by_cases h5 : x.kind = 5
  · rw [if_pos h5]
    rw [h5]
    clear h1 h3 h5
    go_enter Tryd.func13, Tryd.ntmps13
    go_wp2_with fail
    refine (own_printable x.s _ hz).mono ?_
    rintro e w1 ⟨rfl, hb⟩
    go_wp2_with fail
    go_ret
    exact ⟨rfl, below_up hb⟩
  rw [if_neg h5]
  have k1 : (x.kind == 1) = false := by simpa using h1
  have k3 : (x.kind == 3) = false := by simpa using h3
  have k5 : (x.kind == 5) = false := by simpa using h5
  clear h1 h3 h5
  go_enter Tryd.func13, Tryd.ntmps13
  go_wp2_with fail
  go_ret
  exact ⟨rfl, show_below⟩
end Go.Proofs.YtncjaohiimenaabDoor
