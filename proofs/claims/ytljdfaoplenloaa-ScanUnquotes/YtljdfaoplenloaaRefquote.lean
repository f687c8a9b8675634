/- What panicroadref.Quote answers. -/
import Derived.Test.YtljdfaoplenloaaRows
import Derived.Test.YtljdfaoplenloaaQuoteplain
import Derived.WalkKit
import Derived.ProofKit
import Derived.OpenShut
import Derived.Handy
import Derived.Laws.Strings2
import Derived.WalkSpells
import Derived.Deep.QuietTactic
import Derived.BigQuiet
namespace Go.Proofs.Ytljdfaoplenloaa
open Go.ChangeShapes Go.WideShapes Go.ChangeAt Go.RowKit

theorem size_list (s : ByteArray) : s.data.toList.length = s.size := by simp
theorem get_list (s : ByteArray) (k : Nat) (h : k < s.size) : s[k] = s.data.toList[k]'(by simpa using h) := by
  rw [Array.getElem_toList]; rfl
theorem ext_one (s : ByteArray) (k : Nat) (h : k < s.size) : (s.extract k (k + 1)).toList = [s[k]] := by
  rw [ByteArray.toList_eq, ByteArray.data_extract, get_list s k h]
  apply List.ext_getElem
  · simp; omega
  · intro i h1 h2
    simp at h2
    subst h2
    simp
theorem slice_one (s : ByteArray) (k : Nat) (h : k < s.size) (W : World) : (Instr.slice 9 (.string s) (some (.int .i64 (k : Int))) (some (.int .i64 ((k : Int) + 1))) none).run Try.prog W = .ok (.string (s.extract k (k + 1))) W := by
  rw [run_slice_string W 9 s .i64 .i64 k (k + 1) Try.underlying9 (by omega) (by omega) (by omega)]
  congr 3
theorem str_append (a b : ByteArray) : (a ++ b).data.toList = a.data.toList ++ b.data.toList := by simp
theorem str_of {s : ByteArray} {l : List UInt8} (h : s.data.toList = l) : s = ⟨l.toArray⟩ := by
  subst h; rfl

theorem q_step {u p : ByteArray} {l : List UInt8} {k : Nat} {x : UInt8} (hu : u.data.toList = 34 :: qBody (l.take k) ∧ (l.take k).all okB = true) (ht : l.take (k + 1) = l.take k ++ [x]) (hp : p.data.toList = qPiece x) (ho : okB x = true) :
    (u ++ p).data.toList = 34 :: qBody (l.take (k + 1)) ∧ (l.take (k + 1)).all okB = true := by
  rw [str_append, hu.1, hp, ht, qBody_snoc, all_snoc, hu.2, ho]
  exact ⟨rfl, rfl⟩
theorem size_of {p : ByteArray} {n : Nat} (h : p.data.toList.length = n) : p.size = n := by rw [← size_list]; exact h
theorem size_app {u p : ByteArray} {n m : Nat} (h : u.size ≤ n) (hp : p.size ≤ m) : (u ++ p).size ≤ n + m := by rw [ByteArray.size_append]; omega

set_option maxHeartbeats 2000000 in
theorem ref_quote (s : ByteArray) (w : World) (hs : s.size ≤ maxLen) :
    Calls Try.prog 9 #[.string s] w fun e w' => e = .returned (.tuple #[.string ⟨(qS s.data.toList).toArray⟩, .int .i64 (qE s.data.toList)]) ∧ w' = w := by
  unfold maxLen at hs
  by_cases h200 : 200 < s.size
  · have e1 : qS s.data.toList = [] := by unfold qS; rw [if_pos (by rw [size_list]; omega)]
    have e2 : qE s.data.toList = 1 := by unfold qE; rw [if_pos (by rw [size_list]; omega)]
    rw [e1, e2]
    clear e1 e2
    go_enter Try.func9, Try.ntmps9
    go_wp2
    go_ret2
    exact ⟨rfl, rfl⟩
  have HG : Hid (∀ (k : Nat) (h : k < s.size), s.data.toList[k]? = some s[k]) := fun k h => by rw [get_list s k h, List.getElem?_eq_getElem]
  have HZ : Hid (s.data.toList.length = s.size) := size_list s
  generalize s.data.toList = l at *
  go_enter Try.func9, Try.ntmps9
  go_wp2
  go_loop [4, 5] (fun t i => ∃ (k : Nat) (u : ByteArray), k ≤ s.size ∧ i = .int .i64 k ∧ t = .string u ∧ u.size ≤ 2 * k + 1 ∧ Hid (u.data.toList = 34 :: qBody (l.take k) ∧ (l.take k).all okB = true)) (fun _ i => s.size - (intOf i).toNat)
  case atStart => exact ⟨0, _, Nat.zero_le _, rfl, rfl, by decide, ⟨by simp [qBody], by simp⟩⟩
  case round =>
    obtain ⟨k, u, hk, rfl, rfl, hu, HU⟩ := hrel
    by_cases hlt : k < s.size
    · have HT : Hid (l.take (k + 1) = l.take k ++ [s[k]]) := take_at (HG.out k hlt)
      have HA : Hid (okB s[k] = false → l.all okB = false) := all_at (HG.out k hlt)
      have he := ext_one s k hlt
      have hsl := slice_one s k hlt
      have HC : Hid ((s.extract k (k + 1)).data.toList = [s[k]]) := by rw [← ByteArray.toList_eq]; exact he
      have hc1 : (s.extract k (k + 1)).size ≤ 1 := by rw [size_of (by rw [HC.out])]; simp
      generalize s.extract k (k + 1) = c at *
      generalize hx : s[k] = x at *
      have HX : Hid (s[k] = x) := hx
      clear hx
      rcases byte_ways x with h | h | h | h | h | h
      · have e1 : (c.toList == [10]) = false := by rw [he, h]; decide
        have e2 : (c.toList == [9]) = false := by rw [he, h]; decide
        have e3 : (c.toList == [34]) = true := by rw [he, h]; decide
        have z2 : ((⟨#[92]⟩ : ByteArray) ++ c).size ≤ 2 := size_app (m := 1) (n := 1) (by decide) hc1
        have HF : Hid ((u ++ (⟨#[92]⟩ ++ c)).data.toList = 34 :: qBody (l.take (k + 1)) ∧ (l.take (k + 1)).all okB = true) := q_step HU.out HT.out (by rw [str_append, HC.out, h]; decide) (by rw [h]; decide)
        clear he h
        go_wp2
        exact ⟨⟨k + 1, _, by omega, by go_num, rfl, by rw [ByteArray.size_append]; omega, HF.out⟩, by simp [intOf]; omega⟩
      · have e1 : (c.toList == [10]) = false := by rw [he, h]; decide
        have e2 : (c.toList == [9]) = false := by rw [he, h]; decide
        have e3 : (c.toList == [34]) = false := by rw [he, h]; decide
        have e4 : (c.toList == [92]) = true := by rw [he, h]; decide
        have z2 : ((⟨#[92]⟩ : ByteArray) ++ c).size ≤ 2 := size_app (m := 1) (n := 1) (by decide) hc1
        have HF : Hid ((u ++ (⟨#[92]⟩ ++ c)).data.toList = 34 :: qBody (l.take (k + 1)) ∧ (l.take (k + 1)).all okB = true) := q_step HU.out HT.out (by rw [str_append, HC.out, h]; decide) (by rw [h]; decide)
        clear he h
        go_wp2
        exact ⟨⟨k + 1, _, by omega, by go_num, rfl, by rw [ByteArray.size_append]; omega, HF.out⟩, by simp [intOf]; omega⟩
      · have e1 : (c.toList == [10]) = true := by rw [he, h]; decide
        have HF : Hid ((u ++ (⟨#[92, 110]⟩ : ByteArray)).data.toList = 34 :: qBody (l.take (k + 1)) ∧ (l.take (k + 1)).all okB = true) := q_step HU.out HT.out (by rw [h]; decide) (by rw [h]; decide)
        have z2 : (⟨#[92, 110]⟩ : ByteArray).size = 2 := rfl
        clear he h
        go_wp2
        exact ⟨⟨k + 1, _, by omega, by go_num, rfl, by rw [ByteArray.size_append]; omega, HF.out⟩, by simp [intOf]; omega⟩
      · have e1 : (c.toList == [10]) = false := by rw [he, h]; decide
        have e2 : (c.toList == [9]) = true := by rw [he, h]; decide
        have HF : Hid ((u ++ (⟨#[92, 116]⟩ : ByteArray)).data.toList = 34 :: qBody (l.take (k + 1)) ∧ (l.take (k + 1)).all okB = true) := q_step HU.out HT.out (by rw [h]; decide) (by rw [h]; decide)
        have z2 : (⟨#[92, 116]⟩ : ByteArray).size = 2 := rfl
        clear he h
        go_wp2
        exact ⟨⟨k + 1, _, by omega, by go_num, rfl, by rw [ByteArray.size_append]; omega, HF.out⟩, by simp [intOf]; omega⟩
      · obtain ⟨hr, h1, h2, h3, h4⟩ := h
        have e1 : (c.toList == [10]) = false := by rw [he]; simp [h3]
        have e2 : (c.toList == [9]) = false := by rw [he]; simp [h4]
        have e3 : (c.toList == [34]) = false := by rw [he]; simp [h1]
        have e4 : (c.toList == [92]) = false := by rw [he]; simp [h2]
        have HF : Hid ((u ++ c).data.toList = 34 :: qBody (l.take (k + 1)) ∧ (l.take (k + 1)).all okB = true) := q_step HU.out HT.out (by rw [HC.out, qPiece_plain ⟨h1, h2, h3, h4⟩]) (okB_plain hr)
        have r1 : (32 : Int) ≤ (s[k].toNat : Int) := by rw [HX.out]; omega
        have r2 : (s[k].toNat : Int) ≤ 126 := by rw [HX.out]; omega
        clear he h1 h2 h3 h4 hr
        go_wp2
        exact ⟨⟨k + 1, _, by omega, by go_num, rfl, by rw [ByteArray.size_append]; omega, HF.out⟩, by simp [intOf]; omega⟩
      · have HE : Hid (l.all okB = false) := HA.out (okB_not h)
        obtain ⟨hr, h1, h2, h3, h4⟩ := h
        have e1 : (c.toList == [10]) = false := by rw [he]; simp [h3]
        have e2 : (c.toList == [9]) = false := by rw [he]; simp [h4]
        have e3 : (c.toList == [34]) = false := by rw [he]; simp [h1]
        have e4 : (c.toList == [92]) = false := by rw [he]; simp [h2]
        have HS : Hid (qS l = [] ∧ qE l = 4) := by
          have hz := HZ.out
          refine ⟨?_, ?_⟩
          · unfold qS; rw [if_neg (by omega), HE.out]; rfl
          · unfold qE; rw [if_neg (by omega), HE.out]; rfl
        rcases hr with hr | hr
        · have r1 : (s[k].toNat : Int) < 32 := by rw [HX.out]; omega
          clear he h1 h2 h3 h4 hr
          go_wp2
          go_ret2
          exact ⟨by rw [HS.out.1, HS.out.2]; rfl, rfl⟩
        · have r1 : (32 : Int) ≤ (s[k].toNat : Int) := by rw [HX.out]; omega
          have r2 : (126 : Int) < (s[k].toNat : Int) := by rw [HX.out]; omega
          clear he h1 h2 h3 h4 hr
          go_wp2
          go_ret2
          exact ⟨by rw [HS.out.1, HS.out.2]; rfl, rfl⟩
    · obtain rfl : k = s.size := by omega
      have HS : Hid (u ++ (⟨#[34]⟩ : ByteArray) = ⟨(qS l).toArray⟩ ∧ qE l = 0) := by
        have hz := HZ.out
        have h1 := HU.out
        rw [List.take_of_length_le (by omega)] at h1
        refine ⟨str_of ?_, ?_⟩
        · rw [str_append, h1.1]; unfold qS; rw [if_neg (by omega), h1.2]; rfl
        · unfold qE; rw [if_neg (by omega), h1.2]; rfl
      have z2 : (⟨#[34]⟩ : ByteArray).size = 1 := rfl
      go_wp2
      go_ret2
      exact ⟨by rw [← HS.out.1, HS.out.2]; rfl, rfl⟩
end Go.Proofs.Ytljdfaoplenloaa
