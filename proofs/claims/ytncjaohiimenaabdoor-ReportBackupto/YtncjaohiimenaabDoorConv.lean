/- What word.Text and word.Read answer: decimal texts of numbers of 64 bits; by the library's contracts of strconv.Itoa and strconv.Atoi. -/
import Derived.Test.YtncjaohiimenaabDoorRows
import Derived.Test.YtncjaohiimenaabDoorShelf
import Derived.WalkKit
import Derived.ProofKit
import Derived.OpenShut
import Derived.Handy
import Derived.WalkSmall
import Derived.Stop.LaidErr
import Derived.Lib.AppendIntMem
import Derived.Lib.AtoiErrMem
import Derived.Lib.AtoiAllCases
import Derived.Lib.ItoaLen
import Derived.Lib.LaidTab
import Derived.SizedLaws
namespace Go.Proofs.YtncjaohiimenaabDoor
open Go.ChangeShapes Go.WideShapes Go.ChangeAt Go.RowKit
set_option maxRecDepth 100000

/-! Plain: what is written of a number is read as it. -/
theorem parse_app (l r : List UInt8) : ∀ (acc m : Nat), Lib.parseUint10 acc l = .ok m → Lib.parseUint10 acc (l ++ r) = Lib.parseUint10 m r := by
  induction l with
  | nil => intro acc m h; simp only [Lib.parseUint10] at h; cases h; rfl
  | cons c l ih =>
    intro acc m h
    simp only [Lib.parseUint10, List.cons_append] at h ⊢
    split at h
    · split at h
      · cases h
      · split at h
        · cases h
        · rename_i h1 h2 h3
          rw [if_pos h1, if_neg h2, if_neg h3]
          exact ih _ _ h
    · cases h
theorem digit_byte (d : Nat) (h : d < 10) : (UInt8.ofNat (48 + d)).toNat = 48 + d := by
  simp [UInt8.toNat_ofNat']; omega
theorem parse_digit (m d : Nat) (hd : d < 10) (h : m * 10 + d < 18446744073709551616) : Lib.parseUint10 m [UInt8.ofNat (48 + d)] = .ok (m * 10 + d) := by
  simp only [Lib.parseUint10, digit_byte d hd]
  rw [if_pos (by omega), if_neg (by omega), if_neg (by omega)]
  congr 1
  omega
theorem parse_dec (u : Nat) (h : u < 18446744073709551616) : Lib.parseUint10 0 (Lib.decDigits u) = .ok u := by
  induction u using Nat.strongRecOn with
  | _ u ih =>
    rw [Lib.decDigits]
    split
    · rename_i h1
      have := parse_digit 0 u h1 (by omega)
      simpa using this
    · rename_i h1
      rw [parse_app _ _ 0 (u / 10) (ih (u / 10) (by omega) (by omega)), parse_digit (u / 10) (u % 10) (by omega) (by omega)]
      congr 1
      omega
theorem dec_ne (u : Nat) : Lib.decDigits u ≠ [] := by
  rw [Lib.decDigits]
  split <;> simp
theorem mag_dec (u : Nat) (h : u < 18446744073709551616) : Lib.parseMag (Lib.decDigits u) = .ok u := by
  unfold Lib.parseMag
  rw [if_neg (dec_ne u), parse_dec u h]
theorem dec_head (u : Nat) : ∃ c r, Lib.decDigits u = c :: r ∧ 48 ≤ c.toNat ∧ c.toNat ≤ 57 := by
  induction u using Nat.strongRecOn with
  | _ u ih =>
    rw [Lib.decDigits]
    split
    · rename_i h1
      exact ⟨_, [], rfl, by rw [digit_byte u h1]; omega, by rw [digit_byte u h1]; omega⟩
    · rename_i h1
      obtain ⟨c, r, e, h2, h3⟩ := ih (u / 10) (by omega)
      exact ⟨c, r ++ [UInt8.ofNat (48 + u % 10)], by rw [e]; rfl, h2, h3⟩
theorem atoi_itoa (n : Int) (h0 : -9223372036854775808 ≤ n) (h1 : n ≤ 9223372036854775807) : Lib.atoiAll (Lib.itoa n) = .ok n := by
  unfold Lib.itoa
  split
  · rename_i hn
    rw [Lib.atoiAll_minus, mag_dec _ (by omega)]
    simp only [Lib.signed]
    rw [if_neg (by omega)]
    congr 1
    omega
  · rename_i hn
    have hm := mag_dec n.toNat (by omega)
    obtain ⟨c, r, e, h2, h3⟩ := dec_head n.toNat
    rw [e] at hm ⊢
    rw [Lib.atoiAll_plain c r (by omega) (by omega), hm]
    simp only [Lib.signless]
    rw [if_neg (by omega)]
    congr 1
    omega

/-- What word.Read answers. -/
def rdN (s : ByteArray) : Int := match Lib.atoiAll s.data.toList with
  | .ok v => if Lib.itoa v = s.data.toList then v else 0
  | _ => 0
def rdE (s : ByteArray) : Int := match Lib.atoiAll s.data.toList with
  | .ok v => if Lib.itoa v = s.data.toList then 0 else 3
  | _ => 3
/-- The text of a number. -/
def txt (n : Int) : ByteArray := ⟨(Lib.itoa n).toArray⟩
theorem txt_list (n : Int) : (txt n).toList = Lib.itoa n := by rw [ByteArray.toList_eq]; rfl
theorem rd_txt (n : Int) (h0 : -9223372036854775808 ≤ n) (h1 : n ≤ 9223372036854775807) : rdN (txt n) = n ∧ rdE (txt n) = 0 := by
  have e : (txt n).data.toList = Lib.itoa n := rfl
  unfold rdN rdE
  rw [e, atoi_itoa n h0 h1]
  simp
theorem rd_ok {s : ByteArray} (h : rdE s = 0) : txt (rdN s) = s ∧ -9223372036854775808 ≤ rdN s ∧ rdN s ≤ 9223372036854775807 := by
  unfold rdE at h
  unfold rdN
  split at h
  · rename_i v hv
    split at h
    · rename_i he
      simp only [if_pos he]
      obtain ⟨b1, b2⟩ := Lib.atoiAll_bounds hv
      refine ⟨?_, b1, b2⟩
      unfold txt
      rw [he]
    · cases h
  · cases h

/-! The library's variables. -/
def Pow (w : World) : Prop := Lib.TabIs Tryd.prog w "internal/strconv.uint64pow10" .u64 Lib.pow10Tab
def Syn (w : World) : Prop := ∃ tp p, w.var? Tryd.prog "strconv.ErrSyntax" = some #[.iface tp p]
def Rng (w : World) : Prop := ∃ tp p, w.var? Tryd.prog "strconv.ErrRange" = some #[.iface tp p]
/-- All three. -/
def Lib3 (w : World) : Prop := Pow w ∧ Syn w ∧ Rng w
theorem Tryd.gPow : Tryd.prog.globalNamed "internal/strconv.uint64pow10" = some 4 := by kernel_rfl
theorem Tryd.gSyn : Tryd.prog.globalNamed "strconv.ErrSyntax" = some 2 := by kernel_rfl
theorem Tryd.gRng : Tryd.prog.globalNamed "strconv.ErrRange" = some 3 := by kernel_rfl
theorem var_lt {w : World} {n : String} {g : Nat} {cs : Array Value} (hg : Tryd.prog.globalNamed n = some g) (h : w.var? Tryd.prog n = some cs) : g < w.heap.size := by
  unfold World.var? at h
  rw [hg] at h
  simp only [Option.bind_some] at h
  split at h
  · rename_i heq; exact (Array.getElem?_eq_some_iff.1 heq).1
  · cases h
theorem Pow.below {w w' : World} (h : Pow w) (hb : Below w.heap.size w w') : Pow w' := var?_below hb Tryd.gPow (var_lt Tryd.gPow h) h
theorem Syn.below {w w' : World} (h : Syn w) (hb : Below w.heap.size w w') : Syn w' := by
  obtain ⟨tp, p, h⟩ := h
  exact ⟨tp, p, var?_below hb Tryd.gSyn (var_lt Tryd.gSyn h) h⟩
theorem Rng.below {w w' : World} (h : Rng w) (hb : Below w.heap.size w w') : Rng w' := by
  obtain ⟨tp, p, h⟩ := h
  exact ⟨tp, p, var?_below hb Tryd.gRng (var_lt Tryd.gRng h) h⟩
theorem Lib3.below {w w' : World} (h : Lib3 w) (hb : Below w.heap.size w w') : Lib3 w' := ⟨h.1.below hb, h.2.1.below hb, h.2.2.below hb⟩
theorem below_trans3 {a b c : World} (h1 : Below a.heap.size a b) (h2 : Below b.heap.size b c) : Below a.heap.size a c := h1.trans (h2.mono h1.size)

theorem text_any (n : Int) (h0 : -9223372036854775808 ≤ n) (h1 : n ≤ 9223372036854775807) (w : World) (hp : Pow w) :
    Calls Tryd.prog 27 #[.int .i64 n] w fun e w' => e = .returned (.string (txt n)) ∧ Below w.heap.size w w' := by
  have HP : Hid (Pow w) := hp
  clear hp
  go_enter Tryd.func27, Tryd.ntmps27
  go_wp2_with fail
  refine (Tryd.strconv_Itoa n h0 h1 w HP.out).mono ?_
  rintro e w1 ⟨rfl, k, os, hw⟩
  have hb : Below w.heap.size w w1 := by rw [hw]; exact Lib.below_grow _ _ (Nat.le_refl _) _ _
  clear hw
  go_wp2
  go_ret
  exact ⟨rfl, hb⟩

set_option maxHeartbeats 800000 in
theorem read_any (s : ByteArray) (hs : s.size ≤ 281474976710656) (w : World) (hl : Lib3 w) :
    Calls Tryd.prog 34 #[.string s] w fun e w' => e = .returned (.tuple #[.int .i64 (rdN s), .int .i64 (rdE s)]) ∧ Below w.heap.size w w' := by
  have HL : Hid (Lib3 w) := hl
  clear hl
  cases ha : Lib.atoiAll s.data.toList with
  | ok v =>
    obtain ⟨b1, b2⟩ := Lib.atoiAll_bounds ha
    have HA : Hid (Lib.atoiAll s.data.toList = .ok v) := ha
    by_cases he : Lib.itoa v = s.data.toList
    · have e1 : rdN s = v := by unfold rdN; rw [ha]; simp only [if_pos he]
      have e2 : rdE s = 0 := by unfold rdE; rw [ha]; simp only [if_pos he]
      rw [e1, e2]
      have hq : (txt v).toList = s.toList := by rw [txt_list, he, ByteArray.toList_eq]
      have h1 : ((txt v).toList == s.toList) = true := by rw [hq]; simp
      clear ha e1 e2 he hq
      go_enter Tryd.func34, Tryd.ntmps34
      go_wp2_with fail
      refine (Tryd.strconv_Atoi_ok s (by omega) v HA.out w).mono ?_
      rintro e w1 ⟨rfl, hw⟩
      have hb : Below w.heap.size w w1 := by
        rcases hw with rfl | ⟨t, rfl⟩
        · exact Below.refl _ _
        · exact Lib.bytesWorld_below _ _ _
      clear hw
      go_wp2_with fail
      refine (text_any v b1 b2 w1 (HL.out.1.below hb)).mono ?_
      rintro e w2 ⟨rfl, hb2⟩
      go_wp2
      go_ret2
      exact ⟨rfl, below_trans3 hb hb2⟩
    · have e1 : rdN s = 0 := by unfold rdN; rw [ha]; simp only [if_neg he]
      have e2 : rdE s = 3 := by unfold rdE; rw [ha]; simp only [if_neg he]
      rw [e1, e2]
      have hq : (txt v).toList ≠ s.toList := by rw [txt_list, ByteArray.toList_eq]; exact he
      have h1 : ((txt v).toList == s.toList) = false := by rw [beq_eq_false_iff_ne]; exact hq
      clear ha e1 e2 he hq
      go_enter Tryd.func34, Tryd.ntmps34
      go_wp2_with fail
      refine (Tryd.strconv_Atoi_ok s (by omega) v HA.out w).mono ?_
      rintro e w1 ⟨rfl, hw⟩
      have hb : Below w.heap.size w w1 := by
        rcases hw with rfl | ⟨t, rfl⟩
        · exact Below.refl _ _
        · exact Lib.bytesWorld_below _ _ _
      clear hw
      go_wp2_with fail
      refine (text_any v b1 b2 w1 (HL.out.1.below hb)).mono ?_
      rintro e w2 ⟨rfl, hb2⟩
      go_wp2
      go_ret2
      exact ⟨rfl, below_trans3 hb hb2⟩
  | «syntax» =>
    have HA : Hid (Lib.atoiAll s.data.toList = .«syntax») := ha
    have e1 : rdN s = 0 := by unfold rdN; rw [ha]
    have e2 : rdE s = 3 := by unfold rdE; rw [ha]
    rw [e1, e2]
    clear ha e1 e2
    obtain ⟨tp, p, hv⟩ := HL.out.2.1
    have HV : Hid (w.var? Tryd.prog "strconv.ErrSyntax" = some #[.iface tp p]) := hv
    clear hv
    go_enter Tryd.func34, Tryd.ntmps34
    go_wp2_with fail
    refine (Tryd.strconv_Atoi_syntax_var s hs HA.out tp p w HV.out).mono ?_
    rintro e w1 ⟨M, rfl, -, -, hb⟩
    go_wp2
    go_ret2
    exact ⟨rfl, hb⟩
  | range =>
    have HA : Hid (Lib.atoiAll s.data.toList = .range) := ha
    have e1 : rdN s = 0 := by unfold rdN; rw [ha]
    have e2 : rdE s = 3 := by unfold rdE; rw [ha]
    rw [e1, e2]
    clear ha e1 e2
    obtain ⟨tp, p, hv⟩ := HL.out.2.2
    have HV : Hid (w.var? Tryd.prog "strconv.ErrRange" = some #[.iface tp p]) := hv
    clear hv
    go_enter Tryd.func34, Tryd.ntmps34
    go_wp2_with fail
    refine (Tryd.strconv_Atoi_range_var s hs HA.out tp p w HV.out).mono ?_
    rintro e w1 ⟨M, rfl, -, -, hb⟩
    go_wp2
    go_ret2
    exact ⟨rfl, hb⟩
end Go.Proofs.YtncjaohiimenaabDoor
