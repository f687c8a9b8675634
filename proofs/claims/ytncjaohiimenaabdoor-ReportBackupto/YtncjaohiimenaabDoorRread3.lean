/- What report.Read answers. -/
import Derived.Test.YtncjaohiimenaabDoorRread2
namespace Go.Proofs.YtncjaohiimenaabDoor
open Go.ChangeShapes Go.WideShapes Go.ChangeAt Go.RowKit
set_option maxRecDepth 100000
set_option linter.unusedSimpArgs false
set_option linter.unusedVariables false
/-- Line by line. -/
def runR : Nat → List UInt8 → Nat → Option (List (Vv × Bool))
  | 0, _, _ => none
  | f + 1, l, k => if l = [] then some [] else match readLn (brk l).1 k with
    | none => none
    | some p => (runR f (brk l).2.1 (k + 1)).map fun r => p :: r
def readAll (l : List UInt8) : Option (List (Vv × Bool)) := runR (l.length + 1) l 0
def pesOf : Nat → List (Vv × Bool) → List Pe
  | _, [] => []
  | k, p :: r => peOf k p :: pesOf (k + 1) r
theorem pesOf_snoc : ∀ (a : List (Vv × Bool)) (k : Nat) (p : Vv × Bool), pesOf k (a ++ [p]) = pesOf k a ++ [peOf (k + a.length) p]
  | [], k, p => by simp [pesOf]
  | q :: a, k, p => by
    show peOf k q :: pesOf (k + 1) (a ++ [p]) = _
    rw [pesOf_snoc a (k + 1) p]
    simp [pesOf]
    congr 1
    omega
theorem pesOf_len : ∀ (a : List (Vv × Bool)) (k : Nat), (pesOf k a).length = a.length
  | [], k => rfl
  | q :: a, k => by simp [pesOf, pesOf_len a (k + 1)]
theorem runR_nil (f k : Nat) : runR (f + 1) [] k = some [] := by rw [runR, if_pos rfl]
theorem runR_bad {f k : Nat} {l : List UInt8} (h : l ≠ []) (hr : readLn (brk l).1 k = none) : runR (f + 1) l k = none := by rw [runR, if_neg h, hr]
theorem runR_ok {f k : Nat} {l : List UInt8} {p : Vv × Bool} (h : l ≠ []) (hr : readLn (brk l).1 k = some p) : runR (f + 1) l k = (runR f (brk l).2.1 (k + 1)).map fun r => p :: r := by rw [runR, if_neg h, hr]
theorem readLn_l {l : List UInt8} {k : Nat} {p : Vv × Bool} (h : readLn l k = some p) : p.1.l = [] := by
  unfold readLn at h
  split at h
  · obtain ⟨x, hx, rfl⟩ := Option.map_eq_some_iff.1 h
    unfold readV at hx
    split at hx
    · cases hx; rfl
    · split at hx
      · cases hx; rfl
      · split at hx
        · cases hx; rfl
        · cases hx
  · cases h
def strOf : Value → ByteArray
  | .string s => s
  | _ => ⟨#[]⟩
/-- What Read answers. -/
def ReadPost (s : List UInt8) (B : Nat) (w' : World) (v : Value) (er : Int) : Prop :=
  match readAll s with
  | none => v = .slice none 0 0 ∧ er = 6
  | some xs => ((crashB (pesOf 0 xs)).data.toList = s ∧ PRow B w' v (pesOf 0 xs) ∧ er = 0) ∨ ((crashB (pesOf 0 xs)).data.toList ≠ s ∧ v = .slice none 0 0 ∧ er = 6)
theorem rp_none {s : List UInt8} {B : Nat} {w' : World} (h : readAll s = none) : ReadPost s B w' (.slice none 0 0) 6 := by unfold ReadPost; rw [h]; exact ⟨rfl, rfl⟩
theorem rp_ok {s : List UInt8} {B : Nat} {w' : World} {v : Value} {xs : List (Vv × Bool)} (h : readAll s = some xs) (hc : (crashB (pesOf 0 xs)).data.toList = s) (hp : PRow B w' v (pesOf 0 xs)) : ReadPost s B w' v 0 := by unfold ReadPost; rw [h]; exact .inl ⟨hc, hp, rfl⟩
theorem rp_bad {s : List UInt8} {B : Nat} {w' : World} {xs : List (Vv × Bool)} (h : readAll s = some xs) (hc : (crashB (pesOf 0 xs)).data.toList ≠ s) : ReadPost s B w' (.slice none 0 0) 6 := by unfold ReadPost; rw [h]; exact .inr ⟨hc, rfl, rfl⟩
theorem ba_eq {a b : ByteArray} (h : a.data.toList = b.data.toList) : a = b := by rw [str_of h]
set_option maxHeartbeats 8000000 in
theorem own_read (s : ByteArray) (w : World) (hs : s.size ≤ 1099511627776) (hl : Lib3 w) (hin : ∀ xs, readAll s.data.toList = some xs → PsIn (pesOf 0 xs)) :
    Calls Tryd.prog 8 #[.string s] w fun e w' => ∃ v er, e = .returned (.tuple #[v, .int .i64 er]) ∧ ReadPost s.data.toList w.heap.size w' v er ∧ Below w.heap.size w w' := by
  have HL : Hid (∀ u, Below w.heap.size w u → Lib3 u) := fun u hu => hl.below hu
  have HIN := Hid.mk' hin
  have HZ : Hid (s.data.toList.length = s.size) := bsize_list s
  clear hl hin
  go_enter Tryd.func8, Tryd.ntmps8
  go_wp2_with fail
  go_loopw [4, 5] (fun s4 s5 wr => ∃ (acc : List (Vv × Bool)) (rest : ByteArray), s5 = .string rest ∧ acc.length + rest.size ≤ 1099511627776 ∧ Hid (∃ f, rest.size < f ∧ readAll s.data.toList = (runR f rest.data.toList acc.length).map (fun r => acc ++ r)) ∧ Hid (PRow w.heap.size wr s4 (pesOf 0 acc)) ∧ Hid (Below w.heap.size w wr)) (fun _ r _ => (strOf r).size)
  case atStart => exact ⟨[], s, rfl, by simpa using hs, ⟨s.data.toList.length + 1, by have := HZ.out; omega, by unfold readAll; simp⟩, PRow.nil _ _, Below.refl _ _⟩
  case round =>
    obtain ⟨acc, rest, rfl, hsz, HRUN, HROW, HB⟩ := hrel
    obtain ⟨wq, hwq⟩ : ∃ x, x = wr := ⟨_, rfl⟩
    subst hwq
    obtain ⟨so, sc, hs4⟩ := row_slice HROW.out.row
    rw [pesOf_len] at hs4
    subst hs4
    by_cases hr : rest.data.toList = []
    · have hre : rest = ⟨#[]⟩ := str_of hr
      subst hre
      have HALL : Hid (readAll s.data.toList = some acc) := by
        obtain ⟨f, hf, he⟩ := HRUN.out
        obtain ⟨f', rfl⟩ : ∃ f', f = f' + 1 := ⟨f - 1, by omega⟩
        show _ = _
        rw [he]
        show (runR (f' + 1) [] acc.length).map _ = _
        rw [runR_nil]; simp
      clear hr
      have HCR := Hid.mk' (own_crash _ (pesOf 0 acc) wq HROW.out.lies (HIN.out acc HALL.out) (HL.out _ HB.out).1)
      go_wp2_with fail
      refine Calls.mono HCR.out ?_
      rintro e w2 ⟨rfl, hb2⟩
      have HB2 : Hid (Below w.heap.size w w2) := HB.out.trans (hb2.mono HB.out.size)
      have HR2 := Hid.mk' (HROW.out.below hb2)
      clear hb2
      by_cases hc : (crashB (pesOf 0 acc)).data.toList = s.data.toList
      · have HF := Hid.mk' (rp_ok HALL.out hc HR2.out)
        have hce : crashB (pesOf 0 acc) = s := ba_eq hc
        rw [hce]
        clear hc hce
        go_wp2_with fail
        go_ret2
        exact ⟨_, _, rfl, HF.out, HB2.out⟩
      · have HF : Hid (ReadPost s.data.toList w.heap.size w2 (.slice none 0 0) 6) := rp_bad HALL.out hc
        have hcb : ((crashB (pesOf 0 acc)).toList == s.toList) = false := by rw [ByteArray.toList_eq, ByteArray.toList_eq]; simpa using hc
        generalize crashB (pesOf 0 acc) = CB at *
        clear hc
        go_wp2_with fail
        go_ret2
        exact ⟨_, _, rfl, HF.out, HB2.out⟩
    · have hrb : (rest.toList == ([] : List UInt8)) = false := by rw [ByteArray.toList_eq]; simpa using hr
      have hrz : rest.data.toList.length = rest.size := bsize_list rest
      obtain ⟨b1, b2, b3⟩ := brk_len rest.data.toList
      have HCUT := Hid.mk' (own_cut rest wq (by omega))
      have hl1 : (⟨(brk rest.data.toList).1.toArray⟩ : ByteArray).size ≤ 1099511627776 := by show (brk rest.data.toList).1.toArray.size ≤ _; rw [List.size_toArray]; omega
      have HLN : Hid (∀ u, Below w.heap.size w u → Calls Tryd.prog 17 #[.string ⟨(brk rest.data.toList).1.toArray⟩, .int .i64 acc.length] u fun e w' => e = .returned (optL acc.length (readLn (brk rest.data.toList).1 acc.length)) ∧ Below u.heap.size u w') := fun u hu => own_readLine _ acc.length u (by omega) (HL.out u hu)
      have hl2 : (⟨(brk rest.data.toList).2.1.toArray⟩ : ByteArray).size < rest.size := by show (brk rest.data.toList).2.1.toArray.size < _; rw [List.size_toArray]; have := b2 hr; omega
      have HST : Hid (∀ p, readLn (brk rest.data.toList).1 acc.length = some p → ∃ f, (⟨(brk rest.data.toList).2.1.toArray⟩ : ByteArray).size < f ∧ readAll s.data.toList = (runR f (⟨(brk rest.data.toList).2.1.toArray⟩ : ByteArray).data.toList (acc ++ [p]).length).map (fun r => (acc ++ [p]) ++ r)) := fun p hp => by
        obtain ⟨f, hf, he⟩ := HRUN.out
        obtain ⟨f', rfl⟩ : ∃ f', f = f' + 1 := ⟨f - 1, by omega⟩
        refine ⟨f', by omega, ?_⟩
        rw [he, runR_ok hr hp, Option.map_map, List.length_append, List.length_singleton]
        congr 1
        funext r
        simp
      have HBD : Hid (readLn (brk rest.data.toList).1 acc.length = none → readAll s.data.toList = none) := fun hp => by
        obtain ⟨f, hf, he⟩ := HRUN.out
        obtain ⟨f', rfl⟩ : ∃ f', f = f' + 1 := ⟨f - 1, by omega⟩
        rw [he, runR_bad hr hp]; rfl
      have HLL : Hid (∀ p, readLn (brk rest.data.toList).1 acc.length = some p → p.1.l = []) := fun p hp => readLn_l hp
      generalize readLn (brk rest.data.toList).1 acc.length = ro at *
      generalize (⟨(brk rest.data.toList).1.toArray⟩ : ByteArray) = ln at *
      generalize (⟨(brk rest.data.toList).2.1.toArray⟩ : ByteArray) = bh at *
      generalize (brk rest.data.toList).2.2 = fd at *
      clear hr b1 b2 b3 hrz
      go_wp2_with fail
      refine Calls.mono HCUT.out ?_
      rintro e w2 ⟨rfl, nd, rfl⟩
      have HB2 : Hid (Below w.heap.size w (wq.drewN nd)) := HB.out.trans (show Below w.heap.size wq (wq.drewN nd) from ⟨rfl, rfl, rfl, Nat.le_refl _, fun _ _ => rfl⟩)
      have HROW2 : Hid (PRow w.heap.size (wq.drewN nd) (.slice so acc.length sc) (pesOf 0 acc)) := HROW.out.below (show Below wq.heap.size wq (wq.drewN nd) from ⟨rfl, rfl, rfl, Nat.le_refl _, fun _ _ => rfl⟩)
      generalize wq.drewN nd = w2 at *
      go_wp2_with fail
      refine Calls.mono (HLN.out _ HB2.out) ?_
      rintro e w3 ⟨rfl, hb3⟩
      have HB3 : Hid (Below w.heap.size w w3) := HB2.out.trans (hb3.mono HB2.out.size)
      have HROW3 := Hid.mk' (HROW2.out.below hb3)
      clear hb3
      cases ro with
      | none =>
        have HF : Hid (∀ u, ReadPost s.data.toList w.heap.size u (.slice none 0 0) 6) := fun u => rp_none (HBD.out rfl)
        unfold optL
        unfold zeroPe Pe.val
        go_wp2_with fail
        go_ret2
        exact ⟨_, _, rfl, HF.out _, HB3.out.alloc HB3.out.size _⟩
      | some p =>
        obtain ⟨⟨kd, nn, ss, ll⟩, rc0⟩ := p
        have hll := HLL.out _ rfl
        simp only at hll
        subst hll
        have HST2 := Hid.mk' (HST.out _ rfl)
        unfold optL peOf Pe.val
        have hal1 : Below w3.heap.size w3 (w3.alloc (.cells #[.int .i64 (acc.length : Int), .int .i64 kd, .int .i64 nn, .string ss, .slice none 0 0, .bool rc0, .bool false] 27)) := (Below.refl _ _).alloc (Nat.le_refl _) _
        have hsz1 : (w3.alloc (.cells #[.int .i64 (acc.length : Int), .int .i64 kd, .int .i64 nn, .string ss, .slice none 0 0, .bool rc0, .bool false] 27)).heap.size = w3.heap.size + 1 := by simp
        have hal : Below w3.heap.size w3 ((w3.alloc (.cells #[.int .i64 (acc.length : Int), .int .i64 kd, .int .i64 nn, .string ss, .slice none 0 0, .bool rc0, .bool false] 27)).alloc (.cells #[.int .i64 (acc.length : Int), .int .i64 kd, .int .i64 nn, .string ss, .slice none 0 0, .bool rc0, .bool false] 27)) := hal1.alloc (by rw [hsz1]; omega) _
        have HBAL : Hid (Below w.heap.size w ((w3.alloc (.cells #[.int .i64 (acc.length : Int), .int .i64 kd, .int .i64 nn, .string ss, .slice none 0 0, .bool rc0, .bool false] 27)).alloc (.cells #[.int .i64 (acc.length : Int), .int .i64 kd, .int .i64 nn, .string ss, .slice none 0 0, .bool rc0, .bool false] 27))) := HB3.out.trans (hal.mono HB3.out.size)
        have HPZ : Hid (PRow w.heap.size ((w3.alloc (.cells #[.int .i64 (acc.length : Int), .int .i64 kd, .int .i64 nn, .string ss, .slice none 0 0, .bool rc0, .bool false] 27)).alloc (.cells #[.int .i64 (acc.length : Int), .int .i64 kd, .int .i64 nn, .string ss, .slice none 0 0, .bool rc0, .bool false] 27)) (.slice so acc.length sc) (pesOf 0 acc)) := HROW3.out.below hal
        have HLZ : Hid (((w3.alloc (.cells #[.int .i64 (acc.length : Int), .int .i64 kd, .int .i64 nn, .string ss, .slice none 0 0, .bool rc0, .bool false] 27)).alloc (.cells #[.int .i64 (acc.length : Int), .int .i64 kd, .int .i64 nn, .string ss, .slice none 0 0, .bool rc0, .bool false] 27)).ownsRow w.heap.size 27 7 (.slice (some ⟨w3.heap.size + 1, 0, none⟩) 1 1) 1 (Pe.cells (peOf acc.length (⟨kd, nn, ss, []⟩, rc0)))) := by rw [← hsz1]; exact World.ownsRow_lit (w3.alloc (.cells #[.int .i64 (acc.length : Int), .int .i64 kd, .int .i64 nn, .string ss, .slice none 0 0, .bool rc0, .bool false] 27)) #[.int .i64 (acc.length : Int), .int .i64 kd, .int .i64 nn, .string ss, .slice none 0 0, .bool rc0, .bool false] 1 (by rw [hsz1]; have := HB3.out.size; omega) (by decide) rfl
        have HPL : Hid ((pesOf 0 acc).length = acc.length) := pesOf_len acc 0
        have hal0 : acc.length ≤ 1099511627776 := by omega
        have HPS : Hid (pesOf 0 acc ++ [peOf acc.length (⟨kd, nn, ss, []⟩, rc0)] = pesOf 0 (acc ++ [(⟨kd, nn, ss, []⟩, rc0)])) := by show _ = _; rw [pesOf_snoc, Nat.zero_add]
        clear hal hal1 hsz1
        go_wp2_with (at_builtin; refine gappL rfl _ _ Pe.len Tryd.infoPnR rfl (by decide) Tryd.underlying22 rfl rfl rfl (by have := HPZ.out.row; rw [HPL.out]; rw [HPL.out] at this; exact this) HLZ.out (Pe.one rfl) HBAL.out.size (by rw [HPL.out]; omega) (by decide) ?_; intro v2 u5 hr hg hb5; have HP5 := Hid.mk' (HPZ.out.push hg hr (World.ownsRow_nil _ _ _ _)); obtain ⟨ao, cap, hv2⟩ := row_slice hr; subst hv2; have HB5 : Hid (Below w.heap.size w u5) := HBAL.out.trans hb5; clear hr hg hb5)
        go_roundw
        case rel =>
          refine ⟨acc ++ [((⟨kd, nn, ss, []⟩ : Vv), rc0)], bh, rfl, by rw [List.length_append, List.length_singleton]; omega, HST2, ?_, HB5⟩
          have h5 := HP5.out
          rw [HPS.out] at h5
          have e : (pesOf 0 (acc ++ [((⟨kd, nn, ss, []⟩ : Vv), rc0)])).length = (pesOf 0 acc).length + 1 := by rw [← HPS.out]; simp
          rw [e] at h5
          exact h5
        case measure => simp only [strOf]; exact hl2
end Go.Proofs.YtncjaohiimenaabDoor
