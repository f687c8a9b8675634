/- A remark of one line at the end changes no token: the walk of the law. -/
import Derived.Test.YtljdfaoplenloabDoorAlike
namespace Go.Proofs.YtljdfaoplenloabDoor
open Go.ChangeShapes Go.WideShapes Go.ChangeAt Go.RowKit
set_option maxRecDepth 100000
set_option linter.unusedSimpArgs false
set_option linter.unusedVariables false
theorem addR_bad {s : Sc} {k : Int} {t : ByteArray} {c : Int} {ln cl : Nat} (h : s.addR k t = .bad c ln cl) : c ≠ 0 := by
  unfold Sc.addR at h
  split at h
  · cases h; decide
  · cases h
theorem closeR_bad {s : Sc} {c : Int} {ln cl : Nat} (h : s.closeR = .bad c ln cl) : c ≠ 0 := by
  unfold Sc.closeR at h
  split at h
  · cases h
  · split at h
    · exact addR_bad h
    · cases h
theorem stepR_bad {s : Sc} {r : ByteArray} {h0 : 0 < r.size} {c : Int} {ln cl : Nat} (h : s.stepR r h0 = .bad c ln cl) : c ≠ 0 := by
  unfold Sc.stepR at h
  split at h
  · cases hc : s.closeR with
    | ok s' => rw [hc] at h; cases h
    | bad c' l' m' => rw [hc] at h; cases h; exact closeR_bad hc
  split at h
  · cases h
  split at h
  · cases h
  split at h
  · cases hc : s.addR (fsT r h0).1 (r.extract 0 (fsT r h0).2.1.toNat) with
    | ok s' => rw [hc] at h; cases h
    | bad c' l' m' => rw [hc] at h; cases h; exact addR_bad hc
  · rename_i hz; cases h; exact hz
theorem runR_bad {src : ByteArray} {c : Int} {ln cl : Nat} : ∀ (f : Nat) (s : Sc), runR src f s = .bad c ln cl → c ≠ 0
  | 0, s, h => by rw [runR] at h; cases h
  | f + 1, s, h => by
    rw [runR] at h
    split at h
    · rename_i hp
      cases hs : s.stepR (src.extract s.pos src.size) (rest_pos hp) with
      | ok s1 => rw [hs] at h; exact runR_bad f s1 h
      | bad c' l' m' => rw [hs] at h; cases h; exact stepR_bad hs
    · exact closeR_bad h
theorem tokR_bad {src : ByteArray} {c : Int} {ln cl : Nat} (h : tokR src = .bad c ln cl) : c ≠ 0 := by
  unfold tokR at h
  split at h
  · cases h; decide
  · exact runR_bad _ _ h
/-- What Tokens answers, with the form of its list. -/
theorem told_ok {src : ByteArray} {w w' : World} {e : Ending} {s : Sc} (hR : tokR src = .ok s) (h : Told w (tokR src) e w') : Below w.heap.size w w' ∧ ∃ (ao : Option Addr) (cap : Nat),
    e = .returned (.tuple #[.slice ao s.ts.length cap, .agg #[.int .i64 0, .int .i64 0, .int .i64 0]]) ∧ w'.ownsRow w.heap.size 34 4 (.slice ao s.ts.length cap) s.ts.length (tcells s.ts) := by
  obtain ⟨hb, h⟩ := h
  rw [hR] at h
  obtain ⟨v, rfl, hown⟩ := h
  refine ⟨hb, ?_⟩
  rcases hown.2 with ⟨hv, h0⟩ | ⟨g, c, cur, hv, _⟩
  · exact ⟨none, 0, by rw [hv, h0], by rw [hv, h0] at hown; rw [h0]; exact hown⟩
  · exact ⟨_, _, by rw [hv], by rw [hv] at hown; exact hown⟩
theorem joined (a b : ByteArray) : (a ++ ⟨#[32, 47, 47]⟩ ++ b).data.toList = a.data.toList ++ 32 :: 47 :: 47 :: b.data.toList := by simp
theorem joined_size (a b : ByteArray) : (a ++ ⟨#[32, 47, 47]⟩ ++ b).size = a.size + b.size + 3 := by
  have := congrArg List.length (joined a b)
  simp only [bsize_list, List.length_append, List.length_cons] at this
  omega
theorem spot_new (w : World) (a b c : Int) : (w.alloc (.cells #[.int .i64 a, .int .i64 b, .int .i64 c] 28)).heap[w.heap.size]? = some (.cells #[.int .i64 a, .int .i64 b, .int .i64 c] 28 (0, 0)) ∧ w.heap.size < (w.alloc (.cells #[.int .i64 a, .int .i64 b, .int .i64 c] 28)).heap.size := by
  constructor
  · show (w.heap.push _)[w.heap.size]? = _
    exact Array.getElem?_push_size
  · simp
set_option maxHeartbeats 4000000 in
theorem own_remarks (a0 a1 : ByteArray) (h0 : a0.size ≤ maxLen) (h1 : a1.size ≤ maxLen) (z0 : a0.size ≤ 140737488355328) (z1 : a1.size ≤ 140737488355328) (w : World) (hlib : Lib3 w) : Calls Tryd.prog 6 #[.string a0, .string a1] w fun e w' => e = .returned (.bool true) ∧ Below w.heap.size w w' := by
  have HT : Hid (∀ s W, s.size ≤ maxLen → Below w.heap.size w W → Calls Tryd.prog 9 #[.string s] W (Told W (tokR s))) := fun s W hs hW => own_tokens _ W hs (hlib.below hW)
  have H3 : Hid (∀ W, Below w.heap.size w W → Calls Tryd.prog 8 #[] W fun e w' => e = .returned (.bool true) ∧ Below W.heap.size W w') := fun W hW => own_three W (hlib.below hW)
  have HG : Hid (∀ (k : Nat) (h : k < a1.size), a1.data.toList[k]? = some a1[k]) := fun k h => by rw [get_list a1 k h, List.getElem?_eq_getElem]
  have HM0 : Hid (a0.size ≤ maxLen) := h0
  clear hlib h0 h1
  by_cases hbig : a0.size + a1.size > 7996
  · go_enter Tryd.func6, Tryd.ntmps6
    go_wp2_with fail
    refine (H3.out _ (Below.refl _ _)).mono ?_
    rintro e w2 ⟨rfl, hb2⟩
    go_wp2
    go_ret
    exact ⟨rfl, hb2⟩
  · have hsm : a0.size + a1.size ≤ 7996 := by omega
    clear hbig
    go_enter Tryd.func6, Tryd.ntmps6
    go_wp2
    go_loopw [5] (fun i wr => ∃ k : Nat, k ≤ a1.size ∧ i = .int .i64 k ∧ Hid (wr = w ∧ ∀ j, j < k → a1.data.toList[j]? ≠ some 10)) (fun i _ => a1.size - (intOf i).toNat)
    case atStart => exact ⟨0, Nat.zero_le _, rfl, rfl, fun j hj => by omega⟩
    case round =>
      obtain ⟨k, hk, rfl, HK⟩ := hrel
      obtain rfl := HK.out.1
      by_cases hlt : k < a1.size
      · by_cases h10 : (a1[k].toNat : Int) = 10
        · go_wp2_with fail
          refine (H3.out _ (Below.refl _ _)).mono ?_
          rintro e w2 ⟨rfl, hb2⟩
          go_wp2
          go_ret
          exact ⟨rfl, hb2⟩
        · have HN : Hid (∀ j, j < k + 1 → a1.data.toList[j]? ≠ some 10) := fun j hj => by
            by_cases e : j = k
            · subst e; rw [HG.out j hlt]; intro e; simp only [Option.some.injEq] at e; rw [e] at h10; exact h10 rfl
            · exact HK.out.2 j (by omega)
          go_wp2
          exact ⟨⟨k + 1, by omega, by simp, trivial, HN.out⟩, by simp [intOf]; omega⟩
      · have hli : decide ((k : Int) < (a1.size : Int)) = false := by simp; omega
        have HM : Hid (∀ c ∈ a1.data.toList, c ≠ 10) := fun c hc e => by
          obtain ⟨j, hj⟩ := List.getElem?_of_mem hc
          have := (List.getElem?_eq_some_iff.1 hj).1
          rw [bsize_list] at this
          exact HK.out.2 j (by omega) (by rw [hj, e])
        have HJ : Hid ((a0 ++ ⟨#[32, 47, 47]⟩ ++ a1).size = a0.size + a1.size + 3) := joined_size a0 a1
        have hj : (a0 ++ ⟨#[32, 47, 47]⟩).size = a0.size + 3 := by simp; rfl
        go_wp2_with fail
        refine (HT.out a0 _ HM0.out (Below.refl _ _)).mono ?_
        intro e w1 ht
        cases hR : tokR a0 with
        | ok s =>
          obtain ⟨hb1, ao, ca, rfl, hown⟩ := told_ok hR ht
          obtain ⟨s', hR', hsame⟩ := tok_remark (joined a0 a1) HM.out (by rw [HJ.out]; omega) hR
          clear ht
          have HSM : Hid (SameT s.ts s'.ts) := hsame
          have HR' : Hid (tokR (a0 ++ ⟨#[32, 47, 47]⟩ ++ a1) = .ok s') := hR'
          have HB1 : Hid (Below wr.heap.size wr (w1.alloc (.cells #[.int .i64 0, .int .i64 0, .int .i64 0] 28))) := hb1.alloc hb1.size _
          have HO1 : Hid ((w1.alloc (.cells #[.int .i64 0, .int .i64 0, .int .i64 0] 28)).ownsRow wr.heap.size 34 4 (.slice ao s.ts.length ca) s.ts.length (tcells s.ts)) := row_on hown (Nat.le_refl _) ((Below.refl _ _).alloc (Nat.le_refl _) _)
          have HC1 : Hid ((w1.alloc (.cells #[.int .i64 0, .int .i64 0, .int .i64 0] 28)).heap[w1.heap.size]? = some (.cells #[.int .i64 0, .int .i64 0, .int .i64 0] 28 (0, 0)) ∧ w1.heap.size < (w1.alloc (.cells #[.int .i64 0, .int .i64 0, .int .i64 0] 28)).heap.size) := by
            exact spot_new _ _ _ _
          clear hsame hR' hR hb1 hown
          go_wp2_with fail
          generalize (w1.alloc (.cells #[.int .i64 0, .int .i64 0, .int .i64 0] 28)) = W1 at *
          refine (HT.out _ _ (by rw [HJ.out]; unfold maxLen; omega) HB1.out).mono ?_
          intro e w2 ht2
          obtain ⟨hb2, bo, cb, rfl, hown2⟩ := told_ok HR'.out ht2
          have HB2 : Hid (Below wr.heap.size wr (w2.alloc (.cells #[.int .i64 0, .int .i64 0, .int .i64 0] 28))) := (HB1.out.trans (hb2.mono HB1.out.size)).alloc (HB1.out.trans (hb2.mono HB1.out.size)).size _
          have HO2 : Hid ((w2.alloc (.cells #[.int .i64 0, .int .i64 0, .int .i64 0] 28)).ownsRow wr.heap.size 34 4 (.slice ao s.ts.length ca) s.ts.length (tcells s.ts)) := row_on (row_on HO1.out (Nat.le_refl _) hb2) (Nat.le_refl _) ((Below.refl _ _).alloc (Nat.le_refl _) _)
          have HO3 : Hid ((w2.alloc (.cells #[.int .i64 0, .int .i64 0, .int .i64 0] 28)).ownsRow wr.heap.size 34 4 (.slice bo s'.ts.length cb) s'.ts.length (tcells s'.ts)) := row_on hown2 HB1.out.size ((Below.refl _ _).alloc (Nat.le_refl _) _)
          have k1 := (hb2.block w1.heap.size HC1.out.2).trans HC1.out.1
          have hk1 : w1.heap.size < w2.heap.size := Nat.lt_of_lt_of_le HC1.out.2 hb2.size
          have HC2 : Hid ((w2.alloc (.cells #[.int .i64 0, .int .i64 0, .int .i64 0] 28)).heap[w1.heap.size]? = some (.cells #[.int .i64 0, .int .i64 0, .int .i64 0] 28 (0, 0)) ∧ (w2.alloc (.cells #[.int .i64 0, .int .i64 0, .int .i64 0] 28)).heap[w2.heap.size]? = some (.cells #[.int .i64 0, .int .i64 0, .int .i64 0] 28 (0, 0)) ∧ w2.heap.size < (w2.alloc (.cells #[.int .i64 0, .int .i64 0, .int .i64 0] 28)).heap.size) := by
            exact ⟨(((Below.refl w2.heap.size w2).alloc (Nat.le_refl _) _).block _ hk1).trans k1, spot_new _ _ _ _⟩
          clear ht2 hb2 hown2 k1
          go_wp2_with fail
          generalize (w2.alloc (.cells #[.int .i64 0, .int .i64 0, .int .i64 0] 28)) = W2 at *
          refine (H3.out _ HB2.out).mono ?_
          rintro e w3 ⟨rfl, hb3⟩
          have HB3 : Hid (Below wr.heap.size wr w3) := HB2.out.trans (hb3.mono HB2.out.size)
          have x1 := (hb3.block w1.heap.size (by have := HC2.out.2.2; omega)).trans HC2.out.1
          have x2 := (hb3.block w2.heap.size HC2.out.2.2).trans HC2.out.2.1
          have c1 : w3.cell? ⟨w1.heap.size, 0, none⟩ = some (.int .i64 0) := by simp [World.cell?, x1]
          have c2 : w3.cell? ⟨w2.heap.size, 0, none⟩ = some (.int .i64 0) := by simp [World.cell?, x2]
          have HAL : Hid (Calls Tryd.prog 10 #[.slice ao s.ts.length ca, .slice bo s'.ts.length cb, .bool false] w3 fun e w' => e = .returned (.bool true) ∧ ∃ m, w' = w3.drewN m) := own_alike s.ts s'.ts wr.heap.size _ ao bo ca cb HSM.out (row_on HO2.out (Nat.le_refl _) hb3) (row_on HO3.out (Nat.le_refl _) hb3)
          clear x1 x2 hb3
          go_wp2_with fail
          refine HAL.out.mono ?_
          rintro e w4 ⟨rfl, m, rfl⟩
          go_wp2
          go_ret
          exact ⟨rfl, below_dn HB3.out m⟩
        | bad c ln cl =>
          have hc := tokR_bad hR
          rw [hR] at ht
          obtain ⟨hb1, rfl⟩ := ht
          have HB1 : Hid (Below wr.heap.size wr (w1.alloc (.cells #[.int .i64 c, .int .i64 ln, .int .i64 cl] 28))) := hb1.alloc hb1.size _
          have HC1 : Hid ((w1.alloc (.cells #[.int .i64 c, .int .i64 ln, .int .i64 cl] 28)).heap[w1.heap.size]? = some (.cells #[.int .i64 c, .int .i64 ln, .int .i64 cl] 28 (0, 0)) ∧ w1.heap.size < (w1.alloc (.cells #[.int .i64 c, .int .i64 ln, .int .i64 cl] 28)).heap.size) := spot_new _ _ _ _
          clear hR hb1
          go_wp2_with fail
          generalize (w1.alloc (.cells #[.int .i64 c, .int .i64 ln, .int .i64 cl] 28)) = W1 at *
          refine (HT.out _ _ (by rw [HJ.out]; unfold maxLen; omega) HB1.out).mono ?_
          intro e w2 ht2
          obtain ⟨hb2, d, dn, dl, bo, cb, ts, rfl, -⟩ := told_all ht2
          have HB2 : Hid (Below wr.heap.size wr (w2.alloc (.cells #[.int .i64 d, .int .i64 dn, .int .i64 dl] 28))) := (HB1.out.trans (hb2.mono HB1.out.size)).alloc (HB1.out.trans (hb2.mono HB1.out.size)).size _
          have k1 := (hb2.block w1.heap.size HC1.out.2).trans HC1.out.1
          have hk1 : w1.heap.size < w2.heap.size := Nat.lt_of_lt_of_le HC1.out.2 hb2.size
          have HC2 : Hid ((w2.alloc (.cells #[.int .i64 d, .int .i64 dn, .int .i64 dl] 28)).heap[w1.heap.size]? = some (.cells #[.int .i64 c, .int .i64 ln, .int .i64 cl] 28 (0, 0)) ∧ w2.heap.size < (w2.alloc (.cells #[.int .i64 d, .int .i64 dn, .int .i64 dl] 28)).heap.size) :=
            ⟨(((Below.refl w2.heap.size w2).alloc (Nat.le_refl _) _).block _ hk1).trans k1, (spot_new _ _ _ _).2⟩
          clear ht2 hb2 k1
          go_wp2_with fail
          generalize (w2.alloc (.cells #[.int .i64 d, .int .i64 dn, .int .i64 dl] 28)) = W2 at *
          refine (H3.out _ HB2.out).mono ?_
          rintro e w3 ⟨rfl, hb3⟩
          have HB3 : Hid (Below wr.heap.size wr w3) := HB2.out.trans (hb3.mono HB2.out.size)
          have x1 := (hb3.block w1.heap.size (by have := HC2.out.2; omega)).trans HC2.out.1
          have c1 : w3.cell? ⟨w1.heap.size, 0, none⟩ = some (.int .i64 c) := by simp [World.cell?, x1]
          have t1 : (c != 0) = true := by simpa using hc
          clear x1 hb3
          go_wp2
          go_ret
          exact ⟨rfl, HB3.out⟩
end Go.Proofs.YtljdfaoplenloabDoor
