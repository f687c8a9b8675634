/- What scan.Quote answers. -/
import Derived.Test.YtncjaohiimenaabDoorBuilder
import Derived.Test.YtncjaohiimenaabDoorStrs
import Derived.Test.YtncjaohiimenaabDoorIsplain
namespace Go.Proofs.YtncjaohiimenaabDoor
open Go.ChangeShapes Go.WideShapes Go.ChangeAt Go.RowKit

theorem bq_step {l : List UInt8} {k : Nat} {x : UInt8} {u p : List UInt8} (hu : u = 34 :: qBody (l.take k) ∧ (l.take k).all okB = true) (ht : l.take (k + 1) = l.take k ++ [x]) (hp : p = qPiece x) (ho : okB x = true) :
    u ++ p = 34 :: qBody (l.take (k + 1)) ∧ (l.take (k + 1)).all okB = true := by
  rw [hu.1, hp, ht, qBody_snoc, all_snoc, hu.2, ho]
  exact ⟨rfl, rfl⟩
theorem below_mid {B : Nat} {a b c : World} (h1 : Below B a b) (h2 : Below B b c) : Below B a c := h1.trans h2

set_option maxHeartbeats 2000000 in
theorem own_quote (s : ByteArray) (w : World) (hs : s.size ≤ maxLen) :
    Calls Tryd.prog 39 #[.string s] w fun e w' => e = .returned (.tuple #[.string ⟨(qS s.data.toList).toArray⟩, .int .i64 (qE s.data.toList)]) ∧ Below w.heap.size w w' := by
  unfold maxLen at hs
  by_cases h200 : 200 < s.size
  · have e1 : qS s.data.toList = [] := by unfold qS; rw [if_pos (by rw [bsize_list]; omega)]
    have e2 : qE s.data.toList = 1 := by unfold qE; rw [if_pos (by rw [bsize_list]; omega)]
    rw [e1, e2]
    clear e1 e2
    go_enter Tryd.func39, Tryd.ntmps39
    go_wp2
    go_ret2
    exact ⟨rfl, Below.refl _ _⟩
  have HG : Hid (∀ (k : Nat) (h : k < s.size), s.data.toList[k]? = some s[k]) := fun k h => by rw [get_list s k h, List.getElem?_eq_getElem]
  have HZ : Hid (s.data.toList.length = s.size) := bsize_list s
  generalize s.data.toList = l at *
  go_enter Tryd.func39, Tryd.ntmps39
  go_wp2_with fail
  refine (writeByte_any w.heap.size w.heap.size [] 34 _ (bld_new w) (by decide) (by simp)).mono ?_
  rintro e w1 ⟨rfl, b1, f1⟩
  have HB1 : Hid (Bld w.heap.size w.heap.size (34 :: qBody (l.take 0)) w1 ∧ Below w.heap.size w w1) := ⟨b1, ((Below.refl _ w).alloc (Nat.le_refl _) _).trans f1⟩
  clear b1 f1
  go_wp2
  go_loopw [13] (fun i wr => ∃ (k : Nat) (u : List UInt8), k ≤ s.size ∧ i = .int .i64 k ∧ u.length ≤ 2 * k + 1 ∧ Hid (Bld w.heap.size w.heap.size u wr ∧ u = 34 :: qBody (l.take k) ∧ (l.take k).all okB = true ∧ Below w.heap.size w wr)) (fun i _ => s.size - (intOf i).toNat)
  case atStart => exact ⟨0, [34], Nat.zero_le _, rfl, by simp, HB1.out.1, by simp [qBody], by simp, HB1.out.2⟩
  case round =>
    obtain ⟨k, u, hk, rfl, hu, HU⟩ := hrel
    have hsz : w.heap.size ≤ wr.heap.size := HU.out.2.2.2.size
    by_cases hlt : k < s.size
    · have HT : Hid (l.take (k + 1) = l.take k ++ [s[k]]) := take_at (HG.out k hlt)
      have HA : Hid (okB s[k] = false → l.all okB = false) := all_at (HG.out k hlt)
      have HI : Hid (∀ p, p = qPiece s[k] → okB s[k] = true → u ++ p = 34 :: qBody (l.take (k + 1)) ∧ (l.take (k + 1)).all okB = true) := fun p hp ho => bq_step ⟨HU.out.2.1, HU.out.2.2.1⟩ HT.out hp ho
      rcases byte_ways s[k] with h | h | h | h | h | h
      · have e1 : ((s[k].toNat : Int) == 34) = true := by rw [h]; decide
        have HF' : Hid (u ++ [92] ++ [s[k]] = 34 :: qBody (l.take (k + 1)) ∧ (l.take (k + 1)).all okB = true) := by rw [List.append_assoc]; exact HI.out [92, s[k]] (by rw [h]; decide) (by rw [h]; decide)
        clear h
        go_wp2_with fail
        refine (writeByte_any w.heap.size w.heap.size u 92 _ HU.out.1 (by omega) hsz).mono ?_
        rintro e w2 ⟨rfl, b2, f2⟩
        have hsz2 : w.heap.size ≤ w2.heap.size := Nat.le_trans hsz f2.size
        go_wp2_with fail
        refine (writeByte_any w.heap.size w.heap.size (u ++ [92]) s[k] _ b2 (by simp; omega) hsz2).mono ?_
        rintro e w3 ⟨rfl, b3, f3⟩
        go_wp2
        exact ⟨⟨k + 1, u ++ [92] ++ [s[k]], by omega, by go_num, by simp; omega, b3, HF'.out.1, HF'.out.2, (HU.out.2.2.2.trans f2).trans f3⟩, by simp [intOf]; omega⟩
      · have e1 : ((s[k].toNat : Int) == 34) = false := by rw [h]; decide
        have e2 : ((s[k].toNat : Int) == 92) = true := by rw [h]; decide
        have HF' : Hid (u ++ [92] ++ [s[k]] = 34 :: qBody (l.take (k + 1)) ∧ (l.take (k + 1)).all okB = true) := by rw [List.append_assoc]; exact HI.out [92, s[k]] (by rw [h]; decide) (by rw [h]; decide)
        clear h
        go_wp2_with fail
        refine (writeByte_any w.heap.size w.heap.size u 92 _ HU.out.1 (by omega) hsz).mono ?_
        rintro e w2 ⟨rfl, b2, f2⟩
        have hsz2 : w.heap.size ≤ w2.heap.size := Nat.le_trans hsz f2.size
        go_wp2_with fail
        refine (writeByte_any w.heap.size w.heap.size (u ++ [92]) s[k] _ b2 (by simp; omega) hsz2).mono ?_
        rintro e w3 ⟨rfl, b3, f3⟩
        go_wp2
        exact ⟨⟨k + 1, u ++ [92] ++ [s[k]], by omega, by go_num, by simp; omega, b3, HF'.out.1, HF'.out.2, (HU.out.2.2.2.trans f2).trans f3⟩, by simp [intOf]; omega⟩
      · have e1 : ((s[k].toNat : Int) == 34) = false := by rw [h]; decide
        have e2 : ((s[k].toNat : Int) == 92) = false := by rw [h]; decide
        have e3 : ((s[k].toNat : Int) == 10) = true := by rw [h]; decide
        have HF' : Hid (u ++ (⟨#[92, 110]⟩ : ByteArray).data.toList = 34 :: qBody (l.take (k + 1)) ∧ (l.take (k + 1)).all okB = true) := HI.out _ (by rw [h]; decide) (by rw [h]; decide)
        clear h
        go_wp2_with fail
        refine (writeString_any w.heap.size w.heap.size u ⟨#[92, 110]⟩ _ HU.out.1 (by omega) (by decide) hsz).mono ?_
        rintro e w2 ⟨rfl, b2, f2⟩
        go_wp2
        exact ⟨⟨k + 1, u ++ (⟨#[92, 110]⟩ : ByteArray).data.toList, by omega, by go_num, by simp; omega, b2, HF'.out.1, HF'.out.2, HU.out.2.2.2.trans f2⟩, by simp [intOf]; omega⟩
      · have e1 : ((s[k].toNat : Int) == 34) = false := by rw [h]; decide
        have e2 : ((s[k].toNat : Int) == 92) = false := by rw [h]; decide
        have e3 : ((s[k].toNat : Int) == 10) = false := by rw [h]; decide
        have e4 : ((s[k].toNat : Int) == 9) = true := by rw [h]; decide
        have HF' : Hid (u ++ (⟨#[92, 116]⟩ : ByteArray).data.toList = 34 :: qBody (l.take (k + 1)) ∧ (l.take (k + 1)).all okB = true) := HI.out _ (by rw [h]; decide) (by rw [h]; decide)
        clear h
        go_wp2_with fail
        refine (writeString_any w.heap.size w.heap.size u ⟨#[92, 116]⟩ _ HU.out.1 (by omega) (by decide) hsz).mono ?_
        rintro e w2 ⟨rfl, b2, f2⟩
        go_wp2
        exact ⟨⟨k + 1, u ++ (⟨#[92, 116]⟩ : ByteArray).data.toList, by omega, by go_num, by simp; omega, b2, HF'.out.1, HF'.out.2, HU.out.2.2.2.trans f2⟩, by simp [intOf]; omega⟩
      · obtain ⟨hr, h1, h2, h3, h4⟩ := h
        have e1 : ((s[k].toNat : Int) == 34) = false := nat_ne (n := 34) (by decide) h1
        have e2 : ((s[k].toNat : Int) == 92) = false := nat_ne (n := 92) (by decide) h2
        have e3 : ((s[k].toNat : Int) == 10) = false := nat_ne (n := 10) (by decide) h3
        have e4 : ((s[k].toNat : Int) == 9) = false := nat_ne (n := 9) (by decide) h4
        have HF' : Hid (u ++ [s[k]] = 34 :: qBody (l.take (k + 1)) ∧ (l.take (k + 1)).all okB = true) := HI.out _ (qPiece_plain ⟨h1, h2, h3, h4⟩).symm (okB_plain hr)
        have HP : Hid (plainI (s[k].toNat : Int) = true) := plainI_yes (by omega)
        clear h1 h2 h3 h4 hr
        go_wp2_with fail
        refine (plain_any _ _).mono ?_
        rintro e w2 ⟨rfl, rfl⟩
        rw [HP.out]
        go_wp2_with fail
        refine (writeByte_any w.heap.size w.heap.size u s[k] _ HU.out.1 (by omega) hsz).mono ?_
        rintro e w2 ⟨rfl, b2, f2⟩
        go_wp2
        exact ⟨⟨k + 1, u ++ [s[k]], by omega, by go_num, by simp; omega, b2, HF'.out.1, HF'.out.2, HU.out.2.2.2.trans f2⟩, by simp [intOf]; omega⟩
      · have HE : Hid (l.all okB = false) := HA.out (okB_not h)
        obtain ⟨hr, h1, h2, h3, h4⟩ := h
        have e1 : ((s[k].toNat : Int) == 34) = false := nat_ne (n := 34) (by decide) h1
        have e2 : ((s[k].toNat : Int) == 92) = false := nat_ne (n := 92) (by decide) h2
        have e3 : ((s[k].toNat : Int) == 10) = false := nat_ne (n := 10) (by decide) h3
        have e4 : ((s[k].toNat : Int) == 9) = false := nat_ne (n := 9) (by decide) h4
        have HS : Hid (qS l = [] ∧ qE l = 4) := by
          have hz := HZ.out
          refine ⟨?_, ?_⟩
          · unfold qS; rw [if_neg (by omega), HE.out]; rfl
          · unfold qE; rw [if_neg (by omega), HE.out]; rfl
        have HP : Hid (plainI (s[k].toNat : Int) = false) := plainI_no (by omega)
        clear h1 h2 h3 h4 hr
        go_wp2_with fail
        refine (plain_any _ _).mono ?_
        rintro e w2 ⟨rfl, rfl⟩
        rw [HP.out]
        go_wp2
        go_ret2
        exact ⟨by rw [HS.out.1, HS.out.2]; rfl, HU.out.2.2.2⟩
    · obtain rfl : k = s.size := by omega
      have HS : Hid ((⟨(u ++ [34]).toArray⟩ : ByteArray) = ⟨(qS l).toArray⟩ ∧ qE l = 0) := by
        have hz := HZ.out
        have h1 := HU.out.2
        rw [List.take_of_length_le (by omega)] at h1
        refine ⟨?_, ?_⟩
        · rw [h1.1]; unfold qS; rw [if_neg (by omega), h1.2.1]; rfl
        · unfold qE; rw [if_neg (by omega), h1.2.1]; rfl
      go_wp2_with fail
      refine (writeByte_any w.heap.size w.heap.size u 34 _ HU.out.1 (by omega) hsz).mono ?_
      rintro e w2 ⟨rfl, b2, f2⟩
      have hsz2 : w.heap.size ≤ w2.heap.size := Nat.le_trans hsz f2.size
      go_wp2_with fail
      refine (bstr_any w.heap.size w.heap.size (u ++ [34]) _ b2 hsz2).mono ?_
      rintro e w3 ⟨rfl, f3⟩
      rw [HS.out.1]
      go_wp2
      go_ret2
      exact ⟨by rw [HS.out.2]; rfl, (HU.out.2.2.2.trans f2).trans f3⟩
end Go.Proofs.YtncjaohiimenaabDoor
