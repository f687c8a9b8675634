/- The contract of the big numbers' SetString at base 10, for texts of at most 20 bytes. -/
import Derived.Test.YtjmklmcnlieplaaDoorBigmul
import Derived.Test.YtjmklmcnlieplaaDoorSsplain
import Derived.WalkSpells
namespace Go.Proofs.YtjmklmcnlieplaaDoor
open Go.ChangeShapes Go.WideShapes Go.ChangeAt Go.RowKit

/-- What SetString leaves: the number that the text spells, or nothing. -/
def SsPost (w : World) (b : Nat) (r : Option Int) (e : Ending) (w' : World) : Prop :=
  (∀ z, r = some z → e = .returned (.tuple #[.pointer (some ⟨b, 0, none⟩), .bool true]) ∧ Big w' b z) ∧ (r = none → e = .returned (.tuple #[.pointer none, .bool false])) ∧ w.grownBy w' (some b)
theorem row_nil (w : World) : Row w (.slice none 0 0) [] := World.ownsInts_nil _ _ _ _
theorem byte_at {t : ByteArray} {k : Nat} (h : k < t.size) : t.data.toList[k]? = some t[k] := by
  rw [List.getElem?_eq_getElem (by simpa using h)]; rfl
/-- A number of at most twenty digits takes at most three words. -/
theorem short_row {w : World} {v : Value} {cs : List Int} (h : Row w v cs) (hn : Norm cs) {m : Nat} (hm : (nv cs).toNat = m) (hb : m < 100000000000000000000) : cs.length ≤ 3 := by
  have h0 := (nv_range h.wds).1
  exact nv_len h.wds hn (by have : top 3 = 79228162514264337593543950336 := by decide
                            rw [this]; omega)

theorem atoi_minus {r : List UInt8} : Lib.atoi (45 :: r) = (Lib.decNat r).map fun (m : Nat) => -(m : Int) := by simp [Lib.atoi]
theorem atoi_plus {r : List UInt8} : Lib.atoi (43 :: r) = (Lib.decNat r).map fun (m : Nat) => (m : Int) := by simp [Lib.atoi]
theorem atoi_plain {c : UInt8} {r : List UInt8} (h1 : c.toNat ≠ 45) (h2 : c.toNat ≠ 43) : Lib.atoi (c :: r) = (Lib.decNat (c :: r)).map fun (m : Nat) => (m : Int) := by
  simp only [Lib.atoi]
  rw [if_neg (by intro h; exact h1 (congrArg UInt8.toNat (eq_of_beq h))), if_neg (by intro h; exact h2 (congrArg UInt8.toNat (eq_of_beq h)))]
theorem decNat_of {l : List UInt8} (h : l ≠ []) : Lib.decNat l = Lib.decFrom 0 l := by
  unfold Lib.decNat
  cases l with
  | nil => exact absurd rfl h
  | cons _ _ => rfl
theorem size_list (s : ByteArray) : s.data.toList.length = s.size := Array.length_toList
theorem list_cons {s : ByteArray} (h : 0 < s.size) : s.data.toList = s[0] :: (s.extract 1 s.size).data.toList := by
  have h1 : (s.extract 1 s.size).data.toList = s.data.toList.drop 1 := by
    rw [Lib.extract_data, List.take_of_length_le (by rw [List.length_drop, size_list]; exact Nat.le_refl _)]
  rw [h1]
  have h2 : s.data.toList[0]? = some s[0] := byte_at h
  cases hl : s.data.toList with
  | nil => rw [hl] at h2; cases h2
  | cons c r =>
    rw [hl] at h2
    simp at h2
    simp [h2]

set_option maxHeartbeats 4000000 in
theorem ss_none (s : ByteArray) (h : s.size = 0) (b : Nat) (w : World) :
    Calls Tryd.prog 39 #[.pointer (some ⟨b, 0, none⟩), .string s, .int .i64 10] w fun e w' => SsPost w b (Lib.atoi s.data.toList) e w' := by
  have e : s.data.toList = [] := List.length_eq_zero_iff.1 (by rw [size_list]; exact h)
  rw [e]
  have hs : (s.size : Int) ≤ 0 := by omega
  have hs2 : ((s.size : Int) == 0) = true := by simp [h]
  clear e
  go_enter Tryd.func39, Tryd.ntmps39
  go_wp2
  go_ret2
  exact ⟨fun z hz => (by cases hz), fun _ => rfl, World.grownBy.refl _ _⟩

set_option maxRecDepth 100000 in
set_option maxHeartbeats 4000000 in
theorem ss_minus (s : ByteArray) (h0 : 0 < s.size) (h20 : s.size ≤ 20) (hc : s[0].toNat = 45) (b : Nat) (n0 : Bool) (v0 : Value) (w : World) (hB : IntBlock w b n0 v0) :
    Calls Tryd.prog 39 #[.pointer (some ⟨b, 0, none⟩), .string s, .int .i64 10] w fun e w' => SsPost w b (Lib.atoi s.data.toList) e w' := by
  have HB : Hid (IntBlock w b n0 v0) := hB
  have hlist := list_cons h0
  have hsz : (s.extract 1 s.size).size = s.size - 1 := by simp
  have HT : Hid (s.data.toList = s[0] :: (s.extract 1 s.size).data.toList) := hlist
  have hz45 : ((s[0].toNat : Int) == 45) = true := by simp [hc]
  have hz43 : ((s[0].toNat : Int) == 43) = false := by simp [hc]
  have HC : Hid (s[0].toNat = 45) := hc
  have h0' : (0 : Int) < (s.size : Int) := by omega
  clear hlist hc
  by_cases h1 : s.size = 1
  · have HA1 : Hid (Lib.atoi s.data.toList = none) := by
      show Lib.atoi s.data.toList = none
      have e1 : (s.extract 1 s.size).data.toList = [] := List.length_eq_zero_iff.1 (by rw [size_list, hsz]; omega)
      rw [HT.out, e1]
      have e2 : s[0] = 45 := UInt8.toNat_inj.1 HC.out
      rw [e2]; rfl
    have hs2 : (((s.size - 1 : Nat) : Int) == 0) = true := by rw [h1]; rfl
    have hs3 : ((s.size : Int) - 1 == 0) = true := by rw [h1]; rfl
    clear hB
    go_enter Tryd.func39, Tryd.ntmps39
    go_wp2
    go_ret2
    exact ⟨fun z hz => (by rw [HA1.out] at hz; cases hz), fun _ => rfl, World.grownBy.refl _ _⟩
  have hs2 : (((s.size - 1 : Nat) : Int) == 0) = false := by simp; omega
  have hs3 : ((s.size : Int) - 1 == 0) = false := by simp; omega
  have HAT0 : Hid (Lib.atoi s.data.toList = (Lib.decFrom 0 (s.extract 1 s.size).data.toList).map fun (m : Nat) => -(m : Int)) := by
    show Lib.atoi s.data.toList = _
    rw [HT.out]
    have e2 : s[0] = 45 := UInt8.toNat_inj.1 HC.out
    rw [e2, atoi_minus, decNat_of (by intro e; have := congrArg List.length e; rw [size_list, hsz] at this; simp at this; omega)]
  clear hB
  go_enter Tryd.func39, Tryd.ntmps39
  go_wp2
  generalize ht : s.extract 1 s.size = t at *
  have ht20 : t.size ≤ 20 := by omega
  have ht0 : 0 < t.size := by omega
  have HAT : Hid (Lib.atoi s.data.toList = (Lib.decFrom 0 t.data.toList).map fun (m : Nat) => -(m : Int)) := HAT0
  clear hsz HAT0 hs2 hs3 ht
  go_loopw [9, 10] (fun rr ii wr => ∃ (k : Nat) (ro : Option Addr) (rn rc : Nat) (cs : List Int), k ≤ t.size ∧ rr = .slice ro rn rc ∧ ii = .int .i64 k ∧ Hid (Row wr (.slice ro rn rc) cs ∧ Norm cs ∧ Lib.decFrom 0 (t.data.toList.take k) = some (nv cs).toNat) ∧ Below w.heap.size w wr)
    (fun _ ii _ => t.size - (intOf ii).toNat)
  case atStart => exact ⟨0, none, 0, 0, [], Nat.zero_le _, rfl, rfl, ⟨row_nil w, by simp [Norm], rfl⟩, Below.refl _ _⟩
  case round =>
    obtain ⟨k, ro, rn, rc, cs, hk, rfl, rfl, HQ, hbel⟩ := hrel
    by_cases hlt : k < t.size
    · have hbyte := byte_at hlt
      have hstep := fun h0 h1 => decFrom_step HQ.out.2.2 hbyte h0 h1
      have hstop := decFrom_stop hbyte
      have hc256 : t[k].toNat < 256 := t[k].toNat_lt
      have HBYTE : Hid (t.data.toList[k]? = some t[k]) := hbyte
      have HSTEP : Hid (48 ≤ t[k].toNat → t[k].toNat ≤ 57 → Lib.decFrom 0 (t.data.toList.take (k + 1)) = some ((nv cs).toNat * 10 + (t[k].toNat - 48))) := hstep
      have HSTOP : Hid (t[k].toNat < 48 ∨ 57 < t[k].toNat → Lib.decFrom 0 t.data.toList = none) := hstop
      clear hbyte hstep hstop
      by_cases hd : 48 ≤ t[k].toNat ∧ t[k].toNat ≤ 57
      · obtain ⟨d0, d1⟩ := hd
        have hshort := short_row HQ.out.1 HQ.out.2.1 rfl (decFrom_small HQ.out.2.2 (by omega))
        have hnn := (nv_range HQ.out.1.wds).1
        have hs := HSTEP.out d0 d1
        have HS : Hid (Lib.decFrom 0 (t.data.toList.take (k + 1)) = some ((nv cs).toNat * 10 + (t[k].toNat - 48))) := hs
        have b0 : (48 : Int) ≤ (t[k].toNat : Int) := by omega
        have b1 : (t[k].toNat : Int) ≤ 57 := by omega
        clear hs HSTEP HSTOP HBYTE
        go_wp2_with fail
        refine (words_any _ (by omega) (by omega) _).mono ?_
        rintro e w2 ⟨v2, ws2, rfl, r2, n2, e2, hb2⟩
        obtain ⟨ao2, an2, ac2, rfl, -, l2⟩ := r2.slice
        have l2' : ws2.length ≤ 1 := nv_len r2.wds n2 (by rw [e2]; decide)
        have HR2 : Hid (Row w2 (.slice ao2 an2 ac2) ws2) := r2
        have HC2 : Hid (Row w2 (.slice ro rn rc) cs) := HQ.out.1.below hb2
        have HE2 : Hid (nv ws2 = 10) := e2
        clear r2 e2 l2
        go_wp2_with fail
        refine (mul_any _ _ cs ws2 w2 HC2.out HR2.out (by omega) (by omega)).mono ?_
        rintro e w3 ⟨v3, ws3, rfl, r3, n3, e3, hb3⟩
        obtain ⟨ao3, an3, ac3, rfl, -, l3⟩ := r3.slice
        rw [HE2.out] at e3
        have hsm := decFrom_small (l := t.data.toList) (k := k) HQ.out.2.2 (by omega)
        have l3' : ws3.length ≤ 3 := nv_len r3.wds n3 (by rw [e3]; have : top 3 = 79228162514264337593543950336 := by decide
                                                          rw [this]; omega)
        have HR3 : Hid (Row w3 (.slice ao3 an3 ac3) ws3) := r3
        have HE3 : Hid (nv ws3 = nv cs * 10) := e3
        clear r3 e3 l3 HE2
        go_wp2_with fail
        refine (words_any _ (by omega) (by omega) _).mono ?_
        rintro e w4 ⟨v4, ws4, rfl, r4, n4, e4, hb4⟩
        obtain ⟨ao4, an4, ac4, rfl, -, l4⟩ := r4.slice
        have l4' : ws4.length ≤ 1 := nv_len r4.wds n4 (by rw [e4]; have : top 1 = 4294967296 := by decide
                                                          rw [this]; omega)
        have HR4 : Hid (Row w4 (.slice ao4 an4 ac4) ws4) := r4
        have HC4 : Hid (Row w4 (.slice ao3 an3 ac3) ws3) := HR3.out.below hb4
        have HE4 : Hid (nv ws4 = (t[k].toNat : Int) - 48) := e4
        clear r4 e4 l4
        go_wp2_with fail
        refine (add_any _ _ ws3 ws4 w4 HC4.out HR4.out (by omega) (by omega)).mono ?_
        rintro e w5 ⟨v5, ws5, rfl, r5, n5, e5, hb5⟩
        obtain ⟨ao5, an5, ac5, rfl, -, -⟩ := r5.slice
        rw [HE3.out, HE4.out] at e5
        have HR5 : Hid (Row w5 (.slice ao5 an5 ac5) ws5) := r5
        have HE5 : Hid ((nv ws5).toNat = (nv cs).toNat * 10 + (t[k].toNat - 48)) := by show (nv ws5).toNat = _; rw [e5]; omega
        clear r5 e5
        go_wp2
        exact ⟨⟨k + 1, ao5, an5, ac5, ws5, by omega, rfl, by go_num, ⟨HR5.out, n5, by rw [HE5.out]; exact HS.out⟩, below_trans (below_trans (below_trans (below_trans hbel hb2) hb3) hb4) hb5⟩, by simp [intOf]; omega⟩
      · have hno := HSTOP.out (by omega)
        have HNO : Hid (Lib.decFrom 0 t.data.toList = none) := hno
        clear hno HSTEP HSTOP HBYTE
        have hfin : ∀ w', Below w.heap.size w w' → SsPost w b (Lib.atoi s.data.toList) (.returned (.tuple #[.pointer none, .bool false])) w' := fun w' hw' => by
          rw [HAT.out, HNO.out]
          exact ⟨fun z hz => by simp at hz, fun _ => rfl, grown_of_below hw'⟩
        have HFIN : Hid (∀ w', Below w.heap.size w w' → SsPost w b (Lib.atoi s.data.toList) (.returned (.tuple #[.pointer none, .bool false])) w') := hfin
        clear hfin
        rcases (show (t[k].toNat : Int) < 48 ∨ (58 ≤ (t[k].toNat : Int) ∧ (t[k].toNat : Int) < 65) ∨ (65 ≤ (t[k].toNat : Int) ∧ (t[k].toNat : Int) ≤ 90) ∨ (91 ≤ (t[k].toNat : Int) ∧ (t[k].toNat : Int) < 97) ∨ (97 ≤ (t[k].toNat : Int) ∧ (t[k].toNat : Int) ≤ 122) ∨ (123 ≤ (t[k].toNat : Int) ∧ (t[k].toNat : Int) < 256) by omega) with hc | ⟨hc, hc'⟩ | ⟨hc, hc'⟩ | ⟨hc, hc'⟩ | ⟨hc, hc'⟩ | ⟨hc, hc'⟩
        all_goals
          clear hd
          go_wp2
          go_ret2
          exact HFIN.out _ hbel
    · obtain rfl : k = t.size := by omega
      have hi1 : IntBlock wr b n0 v0 := (hbel.block b HB.out.lt).trans HB.out
      have HI : Hid (IntBlock wr b n0 v0) := hi1
      obtain ⟨_, _, _, e0, hmx, -⟩ := HQ.out.1.slice
      simp only [Value.slice.injEq] at e0
      obtain ⟨rfl, rfl, rfl⟩ := e0
      clear hi1
      go_wp2_with fail
      refine (give_any b n0 v0 true _ _ _ wr hmx HI.out).mono ?_
      rintro e w2 ⟨rfl, hi2, hg2⟩
      go_wp2
      go_ret2
      refine ⟨fun z hz => ?_, fun hz => ?_, grown_trans (grown_of_below hbel) hg2⟩
      · have hd := HQ.out.2.2
        rw [List.take_of_length_le (by simp)] at hd
        rw [HAT.out, hd] at hz
        have hnn := (nv_range HQ.out.1.wds).1
        simp at hz
        have := big_given HI.out HQ.out.1 HQ.out.2.1 hi2 hg2
        have e : z = if true then - nv cs else nv cs := by simp; omega
        rw [e]
        exact ⟨rfl, this⟩
      · have hd := HQ.out.2.2
        rw [List.take_of_length_le (by simp)] at hd
        rw [HAT.out, hd] at hz
        simp at hz

set_option maxRecDepth 100000 in
set_option maxHeartbeats 4000000 in
theorem ss_plus (s : ByteArray) (h0 : 0 < s.size) (h20 : s.size ≤ 20) (hc : s[0].toNat = 43) (b : Nat) (n0 : Bool) (v0 : Value) (w : World) (hB : IntBlock w b n0 v0) :
    Calls Tryd.prog 39 #[.pointer (some ⟨b, 0, none⟩), .string s, .int .i64 10] w fun e w' => SsPost w b (Lib.atoi s.data.toList) e w' := by
  have HB : Hid (IntBlock w b n0 v0) := hB
  have hlist := list_cons h0
  have hsz : (s.extract 1 s.size).size = s.size - 1 := by simp
  have HT : Hid (s.data.toList = s[0] :: (s.extract 1 s.size).data.toList) := hlist
  have hz45 : ((s[0].toNat : Int) == 45) = false := by simp [hc]
  have hz43 : ((s[0].toNat : Int) == 43) = true := by simp [hc]
  have HC : Hid (s[0].toNat = 43) := hc
  have h0' : (0 : Int) < (s.size : Int) := by omega
  clear hlist hc
  by_cases h1 : s.size = 1
  · have HA1 : Hid (Lib.atoi s.data.toList = none) := by
      show Lib.atoi s.data.toList = none
      have e1 : (s.extract 1 s.size).data.toList = [] := List.length_eq_zero_iff.1 (by rw [size_list, hsz]; omega)
      rw [HT.out, e1]
      have e2 : s[0] = 43 := UInt8.toNat_inj.1 HC.out
      rw [e2]; rfl
    have hs2 : (((s.size - 1 : Nat) : Int) == 0) = true := by rw [h1]; rfl
    have hs3 : ((s.size : Int) - 1 == 0) = true := by rw [h1]; rfl
    clear hB
    go_enter Tryd.func39, Tryd.ntmps39
    go_wp2
    go_ret2
    exact ⟨fun z hz => (by rw [HA1.out] at hz; cases hz), fun _ => rfl, World.grownBy.refl _ _⟩
  have hs2 : (((s.size - 1 : Nat) : Int) == 0) = false := by simp; omega
  have hs3 : ((s.size : Int) - 1 == 0) = false := by simp; omega
  have HAT0 : Hid (Lib.atoi s.data.toList = (Lib.decFrom 0 (s.extract 1 s.size).data.toList).map fun (m : Nat) => (m : Int)) := by
    show Lib.atoi s.data.toList = _
    rw [HT.out]
    have e2 : s[0] = 43 := UInt8.toNat_inj.1 HC.out
    rw [e2, atoi_plus, decNat_of (by intro e; have := congrArg List.length e; rw [size_list, hsz] at this; simp at this; omega)]
  clear hB
  go_enter Tryd.func39, Tryd.ntmps39
  go_wp2
  generalize ht : s.extract 1 s.size = t at *
  have ht20 : t.size ≤ 20 := by omega
  have ht0 : 0 < t.size := by omega
  have HAT : Hid (Lib.atoi s.data.toList = (Lib.decFrom 0 t.data.toList).map fun (m : Nat) => (m : Int)) := HAT0
  clear hsz HAT0 hs2 hs3 ht
  go_loopw [9, 10] (fun rr ii wr => ∃ (k : Nat) (ro : Option Addr) (rn rc : Nat) (cs : List Int), k ≤ t.size ∧ rr = .slice ro rn rc ∧ ii = .int .i64 k ∧ Hid (Row wr (.slice ro rn rc) cs ∧ Norm cs ∧ Lib.decFrom 0 (t.data.toList.take k) = some (nv cs).toNat) ∧ Below w.heap.size w wr)
    (fun _ ii _ => t.size - (intOf ii).toNat)
  case atStart => exact ⟨0, none, 0, 0, [], Nat.zero_le _, rfl, rfl, ⟨row_nil w, by simp [Norm], rfl⟩, Below.refl _ _⟩
  case round =>
    obtain ⟨k, ro, rn, rc, cs, hk, rfl, rfl, HQ, hbel⟩ := hrel
    by_cases hlt : k < t.size
    · have hbyte := byte_at hlt
      have hstep := fun h0 h1 => decFrom_step HQ.out.2.2 hbyte h0 h1
      have hstop := decFrom_stop hbyte
      have hc256 : t[k].toNat < 256 := t[k].toNat_lt
      have HBYTE : Hid (t.data.toList[k]? = some t[k]) := hbyte
      have HSTEP : Hid (48 ≤ t[k].toNat → t[k].toNat ≤ 57 → Lib.decFrom 0 (t.data.toList.take (k + 1)) = some ((nv cs).toNat * 10 + (t[k].toNat - 48))) := hstep
      have HSTOP : Hid (t[k].toNat < 48 ∨ 57 < t[k].toNat → Lib.decFrom 0 t.data.toList = none) := hstop
      clear hbyte hstep hstop
      by_cases hd : 48 ≤ t[k].toNat ∧ t[k].toNat ≤ 57
      · obtain ⟨d0, d1⟩ := hd
        have hshort := short_row HQ.out.1 HQ.out.2.1 rfl (decFrom_small HQ.out.2.2 (by omega))
        have hnn := (nv_range HQ.out.1.wds).1
        have hs := HSTEP.out d0 d1
        have HS : Hid (Lib.decFrom 0 (t.data.toList.take (k + 1)) = some ((nv cs).toNat * 10 + (t[k].toNat - 48))) := hs
        have b0 : (48 : Int) ≤ (t[k].toNat : Int) := by omega
        have b1 : (t[k].toNat : Int) ≤ 57 := by omega
        clear hs HSTEP HSTOP HBYTE
        go_wp2_with fail
        refine (words_any _ (by omega) (by omega) _).mono ?_
        rintro e w2 ⟨v2, ws2, rfl, r2, n2, e2, hb2⟩
        obtain ⟨ao2, an2, ac2, rfl, -, l2⟩ := r2.slice
        have l2' : ws2.length ≤ 1 := nv_len r2.wds n2 (by rw [e2]; decide)
        have HR2 : Hid (Row w2 (.slice ao2 an2 ac2) ws2) := r2
        have HC2 : Hid (Row w2 (.slice ro rn rc) cs) := HQ.out.1.below hb2
        have HE2 : Hid (nv ws2 = 10) := e2
        clear r2 e2 l2
        go_wp2_with fail
        refine (mul_any _ _ cs ws2 w2 HC2.out HR2.out (by omega) (by omega)).mono ?_
        rintro e w3 ⟨v3, ws3, rfl, r3, n3, e3, hb3⟩
        obtain ⟨ao3, an3, ac3, rfl, -, l3⟩ := r3.slice
        rw [HE2.out] at e3
        have hsm := decFrom_small (l := t.data.toList) (k := k) HQ.out.2.2 (by omega)
        have l3' : ws3.length ≤ 3 := nv_len r3.wds n3 (by rw [e3]; have : top 3 = 79228162514264337593543950336 := by decide
                                                          rw [this]; omega)
        have HR3 : Hid (Row w3 (.slice ao3 an3 ac3) ws3) := r3
        have HE3 : Hid (nv ws3 = nv cs * 10) := e3
        clear r3 e3 l3 HE2
        go_wp2_with fail
        refine (words_any _ (by omega) (by omega) _).mono ?_
        rintro e w4 ⟨v4, ws4, rfl, r4, n4, e4, hb4⟩
        obtain ⟨ao4, an4, ac4, rfl, -, l4⟩ := r4.slice
        have l4' : ws4.length ≤ 1 := nv_len r4.wds n4 (by rw [e4]; have : top 1 = 4294967296 := by decide
                                                          rw [this]; omega)
        have HR4 : Hid (Row w4 (.slice ao4 an4 ac4) ws4) := r4
        have HC4 : Hid (Row w4 (.slice ao3 an3 ac3) ws3) := HR3.out.below hb4
        have HE4 : Hid (nv ws4 = (t[k].toNat : Int) - 48) := e4
        clear r4 e4 l4
        go_wp2_with fail
        refine (add_any _ _ ws3 ws4 w4 HC4.out HR4.out (by omega) (by omega)).mono ?_
        rintro e w5 ⟨v5, ws5, rfl, r5, n5, e5, hb5⟩
        obtain ⟨ao5, an5, ac5, rfl, -, -⟩ := r5.slice
        rw [HE3.out, HE4.out] at e5
        have HR5 : Hid (Row w5 (.slice ao5 an5 ac5) ws5) := r5
        have HE5 : Hid ((nv ws5).toNat = (nv cs).toNat * 10 + (t[k].toNat - 48)) := by show (nv ws5).toNat = _; rw [e5]; omega
        clear r5 e5
        go_wp2
        exact ⟨⟨k + 1, ao5, an5, ac5, ws5, by omega, rfl, by go_num, ⟨HR5.out, n5, by rw [HE5.out]; exact HS.out⟩, below_trans (below_trans (below_trans (below_trans hbel hb2) hb3) hb4) hb5⟩, by simp [intOf]; omega⟩
      · have hno := HSTOP.out (by omega)
        have HNO : Hid (Lib.decFrom 0 t.data.toList = none) := hno
        clear hno HSTEP HSTOP HBYTE
        have hfin : ∀ w', Below w.heap.size w w' → SsPost w b (Lib.atoi s.data.toList) (.returned (.tuple #[.pointer none, .bool false])) w' := fun w' hw' => by
          rw [HAT.out, HNO.out]
          exact ⟨fun z hz => by simp at hz, fun _ => rfl, grown_of_below hw'⟩
        have HFIN : Hid (∀ w', Below w.heap.size w w' → SsPost w b (Lib.atoi s.data.toList) (.returned (.tuple #[.pointer none, .bool false])) w') := hfin
        clear hfin
        rcases (show (t[k].toNat : Int) < 48 ∨ (58 ≤ (t[k].toNat : Int) ∧ (t[k].toNat : Int) < 65) ∨ (65 ≤ (t[k].toNat : Int) ∧ (t[k].toNat : Int) ≤ 90) ∨ (91 ≤ (t[k].toNat : Int) ∧ (t[k].toNat : Int) < 97) ∨ (97 ≤ (t[k].toNat : Int) ∧ (t[k].toNat : Int) ≤ 122) ∨ (123 ≤ (t[k].toNat : Int) ∧ (t[k].toNat : Int) < 256) by omega) with hc | ⟨hc, hc'⟩ | ⟨hc, hc'⟩ | ⟨hc, hc'⟩ | ⟨hc, hc'⟩ | ⟨hc, hc'⟩
        all_goals
          clear hd
          go_wp2
          go_ret2
          exact HFIN.out _ hbel
    · obtain rfl : k = t.size := by omega
      have hi1 : IntBlock wr b n0 v0 := (hbel.block b HB.out.lt).trans HB.out
      have HI : Hid (IntBlock wr b n0 v0) := hi1
      obtain ⟨_, _, _, e0, hmx, -⟩ := HQ.out.1.slice
      simp only [Value.slice.injEq] at e0
      obtain ⟨rfl, rfl, rfl⟩ := e0
      clear hi1
      go_wp2_with fail
      refine (give_any b n0 v0 false _ _ _ wr hmx HI.out).mono ?_
      rintro e w2 ⟨rfl, hi2, hg2⟩
      go_wp2
      go_ret2
      refine ⟨fun z hz => ?_, fun hz => ?_, grown_trans (grown_of_below hbel) hg2⟩
      · have hd := HQ.out.2.2
        rw [List.take_of_length_le (by simp)] at hd
        rw [HAT.out, hd] at hz
        have hnn := (nv_range HQ.out.1.wds).1
        simp at hz
        have := big_given HI.out HQ.out.1 HQ.out.2.1 hi2 hg2
        have e : z = if false then - nv cs else nv cs := by simp; omega
        rw [e]
        exact ⟨rfl, this⟩
      · have hd := HQ.out.2.2
        rw [List.take_of_length_le (by simp)] at hd
        rw [HAT.out, hd] at hz
        simp at hz

set_option maxRecDepth 100000 in
set_option maxHeartbeats 4000000 in
theorem ss_plain (t : ByteArray) (h0 : 0 < t.size) (h20 : t.size ≤ 20) (hc1 : t[0].toNat ≠ 45) (hc2 : t[0].toNat ≠ 43) (b : Nat) (n0 : Bool) (v0 : Value) (w : World) (hB : IntBlock w b n0 v0) :
    Calls Tryd.prog 39 #[.pointer (some ⟨b, 0, none⟩), .string t, .int .i64 10] w fun e w' => SsPost w b (Lib.atoi t.data.toList) e w' := by
  have HB : Hid (IntBlock w b n0 v0) := hB
  have hz45 : ((t[0].toNat : Int) == 45) = false := by simp; omega
  have hz43 : ((t[0].toNat : Int) == 43) = false := by simp; omega
  have h0' : (0 : Int) < (t.size : Int) := by omega
  have hs2 : ((t.size : Int) == 0) = false := by rw [beq_eq_false_iff_ne]; omega
  have ht20 : t.size ≤ 20 := h20
  have ht0 : 0 < t.size := h0
  have HAT : Hid (Lib.atoi t.data.toList = (Lib.decFrom 0 t.data.toList).map fun (m : Nat) => (m : Int)) := by
    show Lib.atoi t.data.toList = _
    have hl := list_cons h0
    have hne : t.data.toList ≠ [] := by rw [hl]; simp
    rw [← decNat_of hne, hl, atoi_plain hc1 hc2]
  clear hc1 hc2
  clear hB
  go_enter Tryd.func39, Tryd.ntmps39
  go_wp2
  clear hs2
  go_loopw [9, 10] (fun rr ii wr => ∃ (k : Nat) (ro : Option Addr) (rn rc : Nat) (cs : List Int), k ≤ t.size ∧ rr = .slice ro rn rc ∧ ii = .int .i64 k ∧ Hid (Row wr (.slice ro rn rc) cs ∧ Norm cs ∧ Lib.decFrom 0 (t.data.toList.take k) = some (nv cs).toNat) ∧ Below w.heap.size w wr)
    (fun _ ii _ => t.size - (intOf ii).toNat)
  case atStart => exact ⟨0, none, 0, 0, [], Nat.zero_le _, rfl, rfl, ⟨row_nil w, by simp [Norm], rfl⟩, Below.refl _ _⟩
  case round =>
    obtain ⟨k, ro, rn, rc, cs, hk, rfl, rfl, HQ, hbel⟩ := hrel
    by_cases hlt : k < t.size
    · have hbyte := byte_at hlt
      have hstep := fun h0 h1 => decFrom_step HQ.out.2.2 hbyte h0 h1
      have hstop := decFrom_stop hbyte
      have hc256 : t[k].toNat < 256 := t[k].toNat_lt
      have HBYTE : Hid (t.data.toList[k]? = some t[k]) := hbyte
      have HSTEP : Hid (48 ≤ t[k].toNat → t[k].toNat ≤ 57 → Lib.decFrom 0 (t.data.toList.take (k + 1)) = some ((nv cs).toNat * 10 + (t[k].toNat - 48))) := hstep
      have HSTOP : Hid (t[k].toNat < 48 ∨ 57 < t[k].toNat → Lib.decFrom 0 t.data.toList = none) := hstop
      clear hbyte hstep hstop
      by_cases hd : 48 ≤ t[k].toNat ∧ t[k].toNat ≤ 57
      · obtain ⟨d0, d1⟩ := hd
        have hshort := short_row HQ.out.1 HQ.out.2.1 rfl (decFrom_small HQ.out.2.2 (by omega))
        have hnn := (nv_range HQ.out.1.wds).1
        have hs := HSTEP.out d0 d1
        have HS : Hid (Lib.decFrom 0 (t.data.toList.take (k + 1)) = some ((nv cs).toNat * 10 + (t[k].toNat - 48))) := hs
        have b0 : (48 : Int) ≤ (t[k].toNat : Int) := by omega
        have b1 : (t[k].toNat : Int) ≤ 57 := by omega
        clear hs HSTEP HSTOP HBYTE
        go_wp2_with fail
        refine (words_any _ (by omega) (by omega) _).mono ?_
        rintro e w2 ⟨v2, ws2, rfl, r2, n2, e2, hb2⟩
        obtain ⟨ao2, an2, ac2, rfl, -, l2⟩ := r2.slice
        have l2' : ws2.length ≤ 1 := nv_len r2.wds n2 (by rw [e2]; decide)
        have HR2 : Hid (Row w2 (.slice ao2 an2 ac2) ws2) := r2
        have HC2 : Hid (Row w2 (.slice ro rn rc) cs) := HQ.out.1.below hb2
        have HE2 : Hid (nv ws2 = 10) := e2
        clear r2 e2 l2
        go_wp2_with fail
        refine (mul_any _ _ cs ws2 w2 HC2.out HR2.out (by omega) (by omega)).mono ?_
        rintro e w3 ⟨v3, ws3, rfl, r3, n3, e3, hb3⟩
        obtain ⟨ao3, an3, ac3, rfl, -, l3⟩ := r3.slice
        rw [HE2.out] at e3
        have hsm := decFrom_small (l := t.data.toList) (k := k) HQ.out.2.2 (by omega)
        have l3' : ws3.length ≤ 3 := nv_len r3.wds n3 (by rw [e3]; have : top 3 = 79228162514264337593543950336 := by decide
                                                          rw [this]; omega)
        have HR3 : Hid (Row w3 (.slice ao3 an3 ac3) ws3) := r3
        have HE3 : Hid (nv ws3 = nv cs * 10) := e3
        clear r3 e3 l3 HE2
        go_wp2_with fail
        refine (words_any _ (by omega) (by omega) _).mono ?_
        rintro e w4 ⟨v4, ws4, rfl, r4, n4, e4, hb4⟩
        obtain ⟨ao4, an4, ac4, rfl, -, l4⟩ := r4.slice
        have l4' : ws4.length ≤ 1 := nv_len r4.wds n4 (by rw [e4]; have : top 1 = 4294967296 := by decide
                                                          rw [this]; omega)
        have HR4 : Hid (Row w4 (.slice ao4 an4 ac4) ws4) := r4
        have HC4 : Hid (Row w4 (.slice ao3 an3 ac3) ws3) := HR3.out.below hb4
        have HE4 : Hid (nv ws4 = (t[k].toNat : Int) - 48) := e4
        clear r4 e4 l4
        go_wp2_with fail
        refine (add_any _ _ ws3 ws4 w4 HC4.out HR4.out (by omega) (by omega)).mono ?_
        rintro e w5 ⟨v5, ws5, rfl, r5, n5, e5, hb5⟩
        obtain ⟨ao5, an5, ac5, rfl, -, -⟩ := r5.slice
        rw [HE3.out, HE4.out] at e5
        have HR5 : Hid (Row w5 (.slice ao5 an5 ac5) ws5) := r5
        have HE5 : Hid ((nv ws5).toNat = (nv cs).toNat * 10 + (t[k].toNat - 48)) := by show (nv ws5).toNat = _; rw [e5]; omega
        clear r5 e5
        go_wp2
        exact ⟨⟨k + 1, ao5, an5, ac5, ws5, by omega, rfl, by go_num, ⟨HR5.out, n5, by rw [HE5.out]; exact HS.out⟩, below_trans (below_trans (below_trans (below_trans hbel hb2) hb3) hb4) hb5⟩, by simp [intOf]; omega⟩
      · have hno := HSTOP.out (by omega)
        have HNO : Hid (Lib.decFrom 0 t.data.toList = none) := hno
        clear hno HSTEP HSTOP HBYTE
        have hfin : ∀ w', Below w.heap.size w w' → SsPost w b (Lib.atoi t.data.toList) (.returned (.tuple #[.pointer none, .bool false])) w' := fun w' hw' => by
          rw [HAT.out, HNO.out]
          exact ⟨fun z hz => by simp at hz, fun _ => rfl, grown_of_below hw'⟩
        have HFIN : Hid (∀ w', Below w.heap.size w w' → SsPost w b (Lib.atoi t.data.toList) (.returned (.tuple #[.pointer none, .bool false])) w') := hfin
        clear hfin
        rcases (show (t[k].toNat : Int) < 48 ∨ (58 ≤ (t[k].toNat : Int) ∧ (t[k].toNat : Int) < 65) ∨ (65 ≤ (t[k].toNat : Int) ∧ (t[k].toNat : Int) ≤ 90) ∨ (91 ≤ (t[k].toNat : Int) ∧ (t[k].toNat : Int) < 97) ∨ (97 ≤ (t[k].toNat : Int) ∧ (t[k].toNat : Int) ≤ 122) ∨ (123 ≤ (t[k].toNat : Int) ∧ (t[k].toNat : Int) < 256) by omega) with hc | ⟨hc, hc'⟩ | ⟨hc, hc'⟩ | ⟨hc, hc'⟩ | ⟨hc, hc'⟩ | ⟨hc, hc'⟩
        all_goals
          clear hd
          go_wp2
          go_ret2
          exact HFIN.out _ hbel
    · obtain rfl : k = t.size := by omega
      have hi1 : IntBlock wr b n0 v0 := (hbel.block b HB.out.lt).trans HB.out
      have HI : Hid (IntBlock wr b n0 v0) := hi1
      obtain ⟨_, _, _, e0, hmx, -⟩ := HQ.out.1.slice
      simp only [Value.slice.injEq] at e0
      obtain ⟨rfl, rfl, rfl⟩ := e0
      clear hi1
      go_wp2_with fail
      refine (give_any b n0 v0 false _ _ _ wr hmx HI.out).mono ?_
      rintro e w2 ⟨rfl, hi2, hg2⟩
      go_wp2
      go_ret2
      refine ⟨fun z hz => ?_, fun hz => ?_, grown_trans (grown_of_below hbel) hg2⟩
      · have hd := HQ.out.2.2
        rw [List.take_of_length_le (by simp)] at hd
        rw [HAT.out, hd] at hz
        have hnn := (nv_range HQ.out.1.wds).1
        simp at hz
        have := big_given HI.out HQ.out.1 HQ.out.2.1 hi2 hg2
        have e : z = if false then - nv cs else nv cs := by simp; omega
        rw [e]
        exact ⟨rfl, this⟩
      · have hd := HQ.out.2.2
        rw [List.take_of_length_le (by simp)] at hd
        rw [HAT.out, hd] at hz
        simp at hz

theorem setString_any (s : ByteArray) (h20 : s.size ≤ 20) (b : Nat) (n0 : Bool) (v0 : Value) (w : World) (hB : IntBlock w b n0 v0) :
    Calls Tryd.prog 39 #[.pointer (some ⟨b, 0, none⟩), .string s, .int .i64 10] w fun e w' => SsPost w b (Lib.atoi s.data.toList) e w' := by
  by_cases h0 : s.size = 0
  · exact ss_none s h0 b w
  · have h1 : 0 < s.size := by omega
    by_cases c1 : s[0].toNat = 45
    · exact ss_minus s h1 h20 c1 b n0 v0 w hB
    · by_cases c2 : s[0].toNat = 43
      · exact ss_plus s h1 h20 c2 b n0 v0 w hB
      · exact ss_plain s h1 h20 c1 c2 b n0 v0 w hB
end Go.Proofs.YtjmklmcnlieplaaDoor
