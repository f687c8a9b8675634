/- What panicroadref.inside answers: the walk. -/
import Derived.Test.YtjmklmcnlieplaaDoorFins
namespace Go.Proofs.YtjmklmcnlieplaaDoor
open Go.ChangeShapes Go.WideShapes Go.ChangeAt Go.RowKit
set_option maxRecDepth 100000
set_option linter.unusedSimpArgs false
set_option linter.unusedVariables false
def IRel (w : World) (s : ByteArray) (p : Nat) (acc : List Int) (v : Value) (wr : World) : Prop :=
  wr.ownsRow w.heap.size 3 1 v acc.length (acc.map (Value.int .i64)) ∧ Below w.heap.size w wr ∧ ∃ n, acc ++ insF n (s.data.toList.drop p) = ins s ∧ s.size < n + p
theorem get_list (s : ByteArray) (k : Nat) (h : k < s.size) : s.data.toList[k]'(by rw [Array.length_toList]; exact h) = s[k] := by
  rw [Array.getElem_toList]; rfl
theorem ins_no {s : ByteArray} {p n : Nat} (h : p < s.size) (hn : isD s[p] = false) (hf : s.size < n + p) : ∃ m, insF n (s.data.toList.drop p) = insF m (s.data.toList.drop (p + 1)) ∧ s.size < m + (p + 1) := by
  obtain ⟨m, rfl⟩ : ∃ m, n = m + 1 := ⟨n - 1, by omega⟩
  have hl : p < s.data.toList.length := by rw [Array.length_toList]; exact h
  refine ⟨m, ?_, by omega⟩
  rw [List.drop_eq_getElem_cons hl, insF, get_list s p h, if_neg (by simp [hn])]
theorem ins_yes {s : ByteArray} {p q n : Nat} (hpq : p < q) (hq : q ≤ s.size) (ha : ∀ j, p ≤ j → j < q → ∀ h : j < s.size, isD s[j] = true) (hz : ∀ h : q < s.size, isD s[q] = false) (hf : s.size < n + p) :
    ∃ m, insF n (s.data.toList.drop p) = rdN (s.extract p q) :: insF m (s.data.toList.drop (q + 1)) ∧ s.size < m + (q + 1) := by
  obtain ⟨m, rfl⟩ : ∃ m, n = m + 1 := ⟨n - 1, by omega⟩
  have e0 : s.data.toList.length = s.size := Array.length_toList
  have hp : p < s.size := by omega
  have hl : p < s.data.toList.length := by omega
  have hr := take_run (l := s.data.toList) (p := p) (q := q) (by omega) (by omega) (fun j h1 h2 h => by rw [get_list s j (by omega)]; exact ha j h1 h2 (by omega)) (fun h => by rw [get_list s q (by omega)]; exact hz (by omega))
  have hx : bt ((s.data.toList.drop p).take (q - p)) = s.extract p q := by
    apply ByteArray.ext; apply Array.ext'
    rw [Lib.extract_data]
    show (s.data.toList.drop p).take (q - p) = _
    first | rfl | rw [List.drop_take]
  refine ⟨m, ?_, by omega⟩
  have hc : s.data.toList.drop p = s[p] :: s.data.toList.drop (p + 1) := by rw [List.drop_eq_getElem_cons hl, get_list s p hp]
  rw [hc, insF, if_pos (ha p (Nat.le_refl _) hpq hp), ← hc, hr, hx]
  congr 2
  rw [List.length_take, List.length_drop, List.drop_drop]
  congr 1
  omega
theorem row_sl {w : World} {B e s : Nat} {v : Value} {n : Nat} {xs : List Value} (h : w.ownsRow B e s v n xs) : ∃ ao cap, v = .slice ao n cap := by
  rcases h.2 with ⟨hv, h0⟩ | ⟨g, cap, cur, hv, _⟩
  · subst h0; exact ⟨none, 0, hv⟩
  · exact ⟨_, _, hv⟩
set_option maxHeartbeats 8000000 in
theorem ref_inside (s : ByteArray) (hs : s.size ≤ 1048576) (w : World) :
    Calls Tryd.prog 15 #[.string s] w fun e w' => ∃ v, e = .returned v ∧ w'.ownsRow w.heap.size 3 1 v (ins s).length ((ins s).map (Value.int .i64)) ∧ Below w.heap.size w w' ∧ (ins s).length ≤ 1048577 := by
  obtain ⟨i0, hi, hz0, hz1, hz2⟩ := info_parts Tryd.infoIntF
  have HRN : Hid (∀ t W, t.size ≤ 1048576 → Calls Tryd.prog 27 #[.string t] W fun e w' => e = .returned (.tuple #[.int .i64 (rdN t), .int .i64 (rdE t)]) ∧ Below W.heap.size W w') := fun t W ht => ref_read t (by omega) W
  go_enter Tryd.func15, Tryd.ntmps15
  go_wp2_with fail
  go_loopw [3, 4] (fun lv iv wr => ∃ (p : Nat) (acc : List Int) (ao : Option Addr) (cv : Nat), p ≤ s.size + 1 ∧ acc.length ≤ p ∧ iv = .int .i64 p ∧ lv = .slice ao acc.length cv ∧ Hid (IRel w s p acc (.slice ao acc.length cv) wr)) (fun _ i _ => s.size + 2 - (intOf i).toNat)
  case atStart => exact ⟨0, [], none, 0, Nat.zero_le _, Nat.zero_le _, rfl, rfl, World.ownsRow_nil _ _ _ _, Below.refl _ _, s.size + 1, by rw [List.drop_zero, List.nil_append]; rfl, by omega⟩
  case round =>
    obtain ⟨p, acc, ao, cv, hp, hacc, rfl, rfl, HQ⟩ := hrel
    have hsw : w.heap.size ≤ wr.heap.size := HQ.out.2.1.size
    by_cases hlt : p < s.size
    · have hlt2 : (p : Int) < (s.size : Int) := by omega
      go_wp2_with fail
      go_loopw [5] (fun kv wq => ∃ q : Nat, p ≤ q ∧ q ≤ s.size ∧ kv = .int .i64 q ∧ wq = wr ∧ Hid (∀ j, p ≤ j → j < q → ∀ h : j < s.size, isD s[j] = true)) (fun k _ => s.size - (intOf k).toNat)
      case atStart => exact ⟨p, Nat.le_refl _, by omega, rfl, rfl, fun j h1 h2 => by omega⟩
      case round =>
        obtain ⟨q, hpq, hqs, rfl, rfl, HA⟩ := hrel
        by_cases hq : q < s.size
        · have hq2 : (q : Int) < (s.size : Int) := by omega
          by_cases h45 : s[q] = 45
          · have hb : ((s[q].toNat : Int) == 45) = true := by rw [h45]; rfl
            have HA2 : Hid (∀ j, p ≤ j → j < q + 1 → ∀ h : j < s.size, isD s[j] = true) := fun j h1 h2 h => by
              by_cases e : j = q
              · subst e; rw [h45]; rfl
              · exact HA.out j h1 (by omega) h
            clear h45
            go_wp2_with fail
            go_roundw
            case rel => exact ⟨q + 1, by omega, by omega, by go_num, trivial, HA2.out⟩
            case measure => simp [intOf]; omega
          · have hb : ((s[q].toNat : Int) == 45) = false := by
              rw [beq_eq_false_iff_ne]; intro h
              exact h45 (UInt8.toNat_inj.1 (by have : (45 : UInt8).toNat = 45 := rfl; omega))
            by_cases hd : 48 ≤ s[q].toNat ∧ s[q].toNat ≤ 57
            · have HD : Hid (∀ W, Calls Tryd.prog 26 #[.int .u8 (s[q].toNat : Int)] W fun e w' => e = .returned (.bool true) ∧ w' = W) := fun W => by
                have h := ref_digit s[q] W
                rw [show isDig s[q] = true by simp [isDig, hd]] at h
                exact h
              have HA2 : Hid (∀ j, p ≤ j → j < q + 1 → ∀ h : j < s.size, isD s[j] = true) := fun j h1 h2 h => by
                by_cases e : j = q
                · subst e; exact isD_digit hd.1 hd.2
                · exact HA.out j h1 (by omega) h
              clear h45 hd
              go_wp2_with fail
              refine (HD.out _).mono ?_
              rintro e u0 ⟨rfl, hu⟩
              rw [hu]; clear hu
              go_wp2_with fail
              go_roundw
              case rel => exact ⟨q + 1, by omega, by omega, by go_num, trivial, HA2.out⟩
              case measure => simp [intOf]; omega
        
            · have HD : Hid (∀ W, Calls Tryd.prog 26 #[.int .u8 (s[q].toNat : Int)] W fun e w' => e = .returned (.bool false) ∧ w' = W) := fun W => by
                have h := ref_digit s[q] W
                rw [show isDig s[q] = false by simp [isDig]; omega] at h
                exact h
              have HZ : Hid (∀ h : q < s.size, isD s[q] = false) := fun h => isD_not h45 hd
              clear h45 hd
              by_cases hgt : p < q
              · have hgt2 : (p : Int) < (q : Int) := by omega
                have hsl := slice_pq s p q (by omega) hqs
                have hxs : (s.extract p q).size ≤ 1048576 := by rw [ByteArray.size_extract]; omega
                obtain ⟨n, hn, hnf⟩ := HQ.out.2.2
                obtain ⟨m, hm, hmf⟩ := ins_yes hgt hqs HA.out HZ.out hnf
                have HN : Hid ((acc ++ [rdN (s.extract p q)]) ++ insF m (s.data.toList.drop (q + 1)) = ins s ∧ s.size < m + (q + 1)) := ⟨by rw [← hn, hm]; simp, hmf⟩
                clear hn hnf hm hmf
                go_wp2_with fail
                refine (HD.out _).mono ?_
                rintro e u0 ⟨rfl, hu⟩
                rw [hu]; clear hu
                go_wp2_with fail
                refine (HRN.out (s.extract p q) _ hxs).mono ?_
                rintro e w1 ⟨rfl, b1⟩
                have HY : Hid (w1.ownsRow w.heap.size 3 1 (.slice ao acc.length cv) acc.length (acc.map (Value.int .i64))) := owns_on HQ.out.1 b1
                have HB1 : Hid (Below w.heap.size w w1) := HQ.out.2.1.trans (b1.mono hsw)
                have hs1 : w.heap.size ≤ w1.heap.size := HB1.out.size
                clear b1 hsl hxs
                generalize rdN (s.extract p q) = x at *
                go_wp2_with (at_builtin; refine wpList_append_own _ rfl _ _ 41 rfl w.heap.size 3 i0 (.int .i64 0) 1 8 Tryd.underlying41 hi hz0 hz1 hz2 rfl (by decide) _ _ _ rfl (World.ownsRow.alloc HY.out _) ⟨w1.heap.size, 0, none⟩ 1 1 [.int .i64 x] rfl rfl ?c1 ?c2 ?c3 ?c4 ?c5 ?_)
                case c1 => exact cell_one_new _ _ _
                case c2 => intro y hy; simp at hy; subst hy; rfl
                case c3 => unfold maxLen; omega
                case c4 => omega
                case c5 => simp; omega
                intro v2 w2 hown2 hgrow2 _
                have HB2 : Hid (Below w.heap.size w w2) := (HB1.out.alloc hs1 _).grown hgrow2 (by simp; omega) (fun g hg => (HY.out.lt g hg).1)
                have HO2 : Hid (w2.ownsRow w.heap.size 3 1 v2 (acc ++ [x]).length ((acc ++ [x]).map (Value.int .i64))) := by
                  show World.ownsRow _ _ _ _ _ _ _
                  rw [List.map_append, List.length_append]
                  exact hown2
                clear hown2 hgrow2
                obtain ⟨a2, c2, rfl⟩ := row_sl HO2.out
                go_wp2_with fail
                go_roundw
                case rel => exact ⟨q + 1, acc ++ [x], a2, c2, by omega, by simp; omega, by go_num, rfl, HO2.out, HB2.out, m, HN.out⟩
                case measure => simp [intOf]; omega
              · obtain rfl : p = q := by omega
                have hgt2 : ¬ (p : Int) < (p : Int) := by omega
                obtain ⟨n, hn, hnf⟩ := HQ.out.2.2
                obtain ⟨m, hm, hmf⟩ := ins_no hlt (HZ.out hlt) hnf
                have HN : Hid (acc ++ insF m (s.data.toList.drop (p + 1)) = ins s ∧ s.size < m + (p + 1)) := ⟨by rw [← hn, hm], hmf⟩
                clear hn hnf hm hmf
                go_wp2_with fail
                refine (HD.out _).mono ?_
                rintro e u0 ⟨rfl, hu⟩
                rw [hu]; clear hu
                go_wp2_with fail
                go_roundw
                case rel => exact ⟨p + 1, acc, ao, cv, by omega, by omega, by go_num, rfl, HQ.out.1, HQ.out.2.1, m, HN.out⟩
                case measure => simp [intOf]; omega
        · obtain rfl : q = s.size := by omega
          have hq2 : ¬ ((s.size : Nat) : Int) < ((s.size : Nat) : Int) := by omega
          have HZ : Hid (∀ h : s.size < s.size, isD s[s.size] = false) := fun h => absurd h (Nat.lt_irrefl _)
          clear hq
          by_cases hgt : p < s.size
          · have hgt2 : (p : Int) < ((s.size : Nat) : Int) := by omega
            have hsl := slice_pq s p s.size (by omega) hqs
            have hxs : (s.extract p s.size).size ≤ 1048576 := by rw [ByteArray.size_extract]; omega
            obtain ⟨n, hn, hnf⟩ := HQ.out.2.2
            obtain ⟨m, hm, hmf⟩ := ins_yes hgt hqs HA.out HZ.out hnf
            have HN : Hid ((acc ++ [rdN (s.extract p s.size)]) ++ insF m (s.data.toList.drop (s.size + 1)) = ins s ∧ s.size < m + (s.size + 1)) := ⟨by rw [← hn, hm]; simp, hmf⟩
            clear hn hnf hm hmf
            go_wp2_with fail
            refine (HRN.out (s.extract p s.size) _ hxs).mono ?_
            rintro e w1 ⟨rfl, b1⟩
            have HY : Hid (w1.ownsRow w.heap.size 3 1 (.slice ao acc.length cv) acc.length (acc.map (Value.int .i64))) := owns_on HQ.out.1 b1
            have HB1 : Hid (Below w.heap.size w w1) := HQ.out.2.1.trans (b1.mono hsw)
            have hs1 : w.heap.size ≤ w1.heap.size := HB1.out.size
            clear b1 hsl hxs
            generalize rdN (s.extract p s.size) = x at *
            go_wp2_with (at_builtin; refine wpList_append_own _ rfl _ _ 41 rfl w.heap.size 3 i0 (.int .i64 0) 1 8 Tryd.underlying41 hi hz0 hz1 hz2 rfl (by decide) _ _ _ rfl (World.ownsRow.alloc HY.out _) ⟨w1.heap.size, 0, none⟩ 1 1 [.int .i64 x] rfl rfl ?c1 ?c2 ?c3 ?c4 ?c5 ?_)
            case c1 => exact cell_one_new _ _ _
            case c2 => intro y hy; simp at hy; subst hy; rfl
            case c3 => unfold maxLen; omega
            case c4 => omega
            case c5 => simp; omega
            intro v2 w2 hown2 hgrow2 _
            have HB2 : Hid (Below w.heap.size w w2) := (HB1.out.alloc hs1 _).grown hgrow2 (by simp; omega) (fun g hg => (HY.out.lt g hg).1)
            have HO2 : Hid (w2.ownsRow w.heap.size 3 1 v2 (acc ++ [x]).length ((acc ++ [x]).map (Value.int .i64))) := by
              show World.ownsRow _ _ _ _ _ _ _
              rw [List.map_append, List.length_append]
              exact hown2
            clear hown2 hgrow2
            obtain ⟨a2, c2, rfl⟩ := row_sl HO2.out
            go_wp2_with fail
            go_roundw
            case rel => exact ⟨s.size + 1, acc ++ [x], a2, c2, by omega, by simp; omega, by go_num, rfl, HO2.out, HB2.out, m, HN.out⟩
            case measure => simp [intOf]; omega
          · exact absurd hlt hgt
    · have hlt2 : ¬ (p : Int) < (s.size : Int) := by omega
      obtain ⟨n, hn, -⟩ := HQ.out.2.2
      rw [List.drop_eq_nil_of_le (by rw [Array.length_toList]; show s.size ≤ p; omega), insF_nil, List.append_nil] at hn
      have HE : Hid (wr.ownsRow w.heap.size 3 1 (.slice ao acc.length cv) (ins s).length ((ins s).map (Value.int .i64)) ∧ Below w.heap.size w wr ∧ (ins s).length ≤ 1048577) := by
        refine ⟨?_, HQ.out.2.1, ?_⟩
        · rw [← hn]; exact HQ.out.1
        · rw [← hn]; omega
      clear hn
      go_wp2_with fail
      go_ret
      exact ⟨_, rfl, HE.out⟩
end Go.Proofs.YtjmklmcnlieplaaDoor
