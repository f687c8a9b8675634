/- Whether two lists of numbers, and two values, are alike. -/
import Derived.Test.YtjfmhppgjhgdaaaVplain
import Derived.Test.YtjfmhppgjhgdaaaVplain2
namespace Go.Proofs.Ytjfmhppgjhgdaaa
open Go.ChangeShapes Go.WideShapes Go.ChangeAt Go.RowKit
set_option maxRecDepth 100000
set_option linter.unusedSimpArgs false
set_option linter.unusedVariables false

theorem below_dn (w : World) (n : Nat) : Below w.heap.size w (w.drewN n) := ⟨rfl, rfl, rfl, Nat.le_refl _, fun _ _ => rfl⟩
theorem list_split (l m : List Int) (k : Nat) (hl : k < l.length) (hm : k < m.length) (h : l.take k = m.take k) : (l == m) = (decide (l[k] = m[k]) && (l.drop (k + 1) == m.drop (k + 1))) := by
  have e1 : l = l.take k ++ l[k] :: l.drop (k + 1) := by rw [← List.drop_eq_getElem_cons hl, List.take_append_drop]
  have e2 : m = m.take k ++ m[k] :: m.drop (k + 1) := by rw [← List.drop_eq_getElem_cons hm, List.take_append_drop]
  rw [Bool.eq_iff_iff]
  simp only [beq_iff_eq, Bool.and_eq_true, decide_eq_true_eq]
  constructor
  · intro e; subst e; exact ⟨rfl, rfl⟩
  · rintro ⟨h1, h2⟩
    rw [e1, e2, h, h1, h2]
theorem ILies.at {w : World} {v : Value} {l : List Int} (h : ILies w v l) {k : Nat} (hk : k < l.length) : ∃ b off cap, v = .slice (some ⟨b, off, none⟩) l.length cap ∧ w.cell? ⟨b, off + k, none⟩ = some (.int .i64 l[k]) := by
  rcases h with ⟨_, h⟩ | ⟨⟨b, off, spot⟩, cap, h1, h2, h2', h3, h4⟩
  · subst h; simp at hk
  · have := h3 (by rintro rfl; simp at hk)
    simp only at this
    subst this
    refine ⟨b, off, cap, h1, ?_⟩
    have := h4 k l[k] (List.getElem?_eq_getElem hk)
    rwa [add_plain] at this
set_option maxHeartbeats 2000000 in
theorem ref_ints (a b : Value) (l m : List Int) (w : World) (ha : ILies w a l) (hb : ILies w b m) (hs : l.length ≤ 140737488351232) :
    Calls Try.prog 18 #[a, b] w fun e w' => e = .returned (.bool (l == m)) ∧ ∃ n, w' = w.drewN n := by
  obtain ⟨ao, ca, ea⟩ := ha.shape
  obtain ⟨bo, cb, eb⟩ := hb.shape
  subst ea
  subst eb
  have HX : Hid (∀ k (h1 : k < l.length) (h2 : k < m.length), ∃ b1 o1 b2 o2, ao = some ⟨b1, o1, none⟩ ∧ bo = some ⟨b2, o2, none⟩ ∧ w.cell? ⟨b1, o1 + k, none⟩ = some (.int .i64 l[k]) ∧ w.cell? ⟨b2, o2 + k, none⟩ = some (.int .i64 m[k])) := fun k h1 h2 => by
    obtain ⟨b1, o1, c1, e1, x1⟩ := ha.at h1
    obtain ⟨b2, o2, c2, e2, x2⟩ := hb.at h2
    cases e1
    cases e2
    exact ⟨b1, o1, b2, o2, rfl, rfl, x1, x2⟩
  clear ha hb
  by_cases hlen : l.length = m.length
  · have HR : Hid (∃ r, (l == m) = r) := ⟨_, rfl⟩
    obtain ⟨r, hr⟩ := HR.out
    clear HR
    rw [hr]
    have HRR : Hid ((l == m) = r) := hr
    clear hr
    have HLE : Hid (l.length = m.length) := hlen
    have HQ : Hid (∃ n, l.length = n) := ⟨_, rfl⟩
    rw [← hlen]
    clear hlen
    obtain ⟨n, hn⟩ := HQ.out
    clear HQ
    rw [hn] at hs ⊢
    have HNL : Hid (l.length = n) := hn
    clear hn
    go_enter Try.func18, Try.ntmps18
    go_wp2_with fail
    go_loopw [13] (fun i wr => ∃ k : Nat, k ≤ n ∧ i = .int .i64 k ∧ Hid (l.take k = m.take k) ∧ Hid (∃ q, wr = w.drewN q)) (fun i _ => n - (intOf i).toNat)
    case atStart => exact ⟨0, Nat.zero_le _, rfl, rfl, 0, rfl⟩
    case round =>
      obtain ⟨k, hk, rfl, HT, HW⟩ := hrel
      obtain ⟨q, rfl⟩ := HW.out
      by_cases hlt : k < n
      · have hk1 : k < l.length := by rw [HNL.out]; exact hlt
        have hk2 : k < m.length := by rw [← HLE.out]; exact hk1
        obtain ⟨b1, o1, b2, o2, rfl, rfl, x1, x2⟩ := HX.out k hk1 hk2
        have hlt2 : (k : Int) < (n : Int) := by omega
        have HS : Hid _ := list_split l m k hk1 hk2 HT.out
        have HTK : Hid (l[k] = m[k] → l.take (k + 1) = m.take (k + 1)) := fun e => by
          rw [List.take_succ_eq_append_getElem hk1, List.take_succ_eq_append_getElem hk2, HT.out, e]
        generalize l[k] = p at *
        generalize m[k] = p2 at *
        by_cases hpq : p = p2
        · have HPE : Hid (p = p2) := hpq
          have hne : (p != p2) = false := by rw [hpq]; simp
          clear hpq
          go_wp2_with fail
          go_quiet (fail)
          go_wp2_with fail
          go_roundw
          case rel => exact ⟨k + 1, by omega, by go_num, HTK.out HPE.out, _, rfl⟩
          case measure => simp [intOf]; omega
        · have hne : (p != p2) = true := by simpa using hpq
          have er : r = false := by rw [← HRR.out, HS.out]; simp [hpq]
          subst er
          clear hpq
          go_wp2_with fail
          go_quiet (fail)
          go_wp2_with fail
          go_ret
          exact ⟨rfl, q + _, (by rw [World.drewN_drewN])⟩
      · have hlt2 : ¬ (k : Int) < (n : Int) := by omega
        have er : r = true := by
          rw [← HRR.out]
          have hkn : k = n := by omega
          have h1 := HT.out
          rw [List.take_of_length_le (by rw [HNL.out]; omega), List.take_of_length_le (by rw [← HLE.out, HNL.out]; omega)] at h1
          rw [h1]; simp
        subst er
        go_wp2_with fail
        go_ret
        exact ⟨rfl, _, rfl⟩
  · have e : (l == m) = false := by
      rw [beq_eq_false_iff_ne]
      intro h; exact hlen (by rw [h])
    rw [e]
    have hne : ¬ (l.length : Int) = (m.length : Int) := by omega
    clear e HX hlen
    go_enter Try.func18, Try.ntmps18
    go_wp2_with fail
    go_ret
    exact ⟨rfl, 0, rfl⟩
theorem ILies.nonempty {w : World} {v : Value} {l : List Int} (h : ILies w v l) (hne : l ≠ []) : ∃ b off cap, v = .slice (some ⟨b, off, none⟩) l.length cap ∧ ∀ j, j < l.length → w.cell? ⟨b, off + j, none⟩ = some (.int .i64 (l.getD j 0)) := by
  rcases h with ⟨_, h⟩ | ⟨⟨b, off, spot⟩, cap, h1, h2, h2', h3, h4⟩
  · exact absurd h hne
  · have := h3 hne
    simp only at this
    subst this
    refine ⟨b, off, cap, h1, fun j hj => ?_⟩
    have := h4 j (l.getD j 0) (by simp [List.getD, List.getElem?_eq_getElem hj])
    rwa [add_plain] at this
theorem own_ints (a b : Value) (l m : List Int) (w : World) (ha : ILies w a l) (hb : ILies w b m) (hs : l.length ≤ 140737488351232) (hs2 : m.length ≤ 140737488351232) :
    Calls Try.prog 19 #[a, b] w fun e w' => e = .returned (.bool (l == m)) ∧ ∃ n, w' = w.drewN n := by
  by_cases hlen : l.length = m.length
  · by_cases hl : l = []
    · have hm : m = [] := List.eq_nil_of_length_eq_zero (by rw [← hlen, hl]; rfl)
      obtain ⟨ao, ca, rfl⟩ := ha.shape
      obtain ⟨bo, cb, rfl⟩ := hb.shape
      subst hl
      subst hm
      refine (Try.slices_Equal_int_empty ao bo ca 0 cb w (by decide)).mono ?_
      rintro e w1 ⟨rfl, rfl⟩
      exact ⟨rfl, 0, rfl⟩
    · have hm : m ≠ [] := fun h => hl (List.eq_nil_of_length_eq_zero (by rw [hlen, h]; rfl))
      obtain ⟨b1, o1, c1, rfl, x1⟩ := ha.nonempty hl
      obtain ⟨b2, o2, c2, rfl, x2⟩ := hb.nonempty hm
      refine (Try.slices_Equal_int b1 o1 l.length c1 b2 o2 m.length c2 l m w (Nat.le_refl _) (Nat.le_refl _) (by omega) (by omega) x1 x2).mono ?_
      rintro e w1 ⟨rfl, q, rfl⟩
      rw [List.take_length, List.take_length]
      exact ⟨rfl, q, rfl⟩
  · obtain ⟨ao, ca, rfl⟩ := ha.shape
    obtain ⟨bo, cb, rfl⟩ := hb.shape
    have e : (l == m) = false := by
      rw [beq_eq_false_iff_ne]
      intro h; exact hlen (by rw [h])
    rw [e]
    refine (Try.slices_Equal_int_lens ao bo l.length ca m.length cb w hlen).mono ?_
    rintro e w1 ⟨rfl, rfl⟩
    exact ⟨rfl, 0, rfl⟩
def eqV (x y : Vv) : Bool := decide (x.kind = y.kind) && (decide (x.n = y.n) && ((x.s.toList == y.s.toList) && (x.l == y.l)))
set_option maxHeartbeats 2000000 in
theorem ref_equal (x y : Vv) (L M : Value) (w : World) (hl : ILies w L x.l) (hm : ILies w M y.l) (hs : x.l.length ≤ 140737488351232) :
    Calls Try.prog 8 #[vval x L, vval y M] w fun e w' => e = .returned (.bool (eqV x y)) ∧ Below w.heap.size w w' := by
  have HI : Hid (∀ o1 o2, Calls Try.prog 18 #[L, M] ((w.alloc o1).alloc o2) fun e w' => e = .returned (.bool (x.l == y.l)) ∧ ∃ n, w' = ((w.alloc o1).alloc o2).drewN n) := fun o1 o2 => ref_ints L M x.l y.l _ (hl.below (below2 w o1 o2) (Nat.le_refl _)) (hm.below (below2 w o1 o2) (Nat.le_refl _)) hs
  clear hl hm
  unfold vval eqV
  by_cases hk : x.kind = y.kind
  · rw [decide_eq_true hk, Bool.true_and]
    rw [← hk]
    clear hk
    by_cases hn : x.n = y.n
    · rw [decide_eq_true hn, Bool.true_and]
      rw [← hn]
      clear hn
      cases hs : (x.s.toList == y.s.toList) with
      | true =>
        rw [Bool.true_and]
        generalize (x.l == y.l) = r at *
        go_enter Try.func8, Try.ntmps8
        go_wp2_with fail
        refine (HI.out _ _).mono ?_
        rintro e w1 ⟨rfl, q, rfl⟩
        go_wp2_with fail
        go_ret
        exact ⟨rfl, below2n _ _ _ _⟩
      | false =>
        rw [Bool.false_and]
        clear HI
        go_enter Try.func8, Try.ntmps8
        go_wp2_with fail
        go_ret
        exact ⟨rfl, below2 _ _ _⟩
    · rw [decide_eq_false hn, Bool.false_and]
      clear HI
      go_enter Try.func8, Try.ntmps8
      go_wp2_with fail
      go_ret
      exact ⟨rfl, below2 _ _ _⟩
  · rw [decide_eq_false hk, Bool.false_and]
    clear HI
    go_enter Try.func8, Try.ntmps8
    go_wp2_with fail
    go_ret
    exact ⟨rfl, below2 _ _ _⟩
end Go.Proofs.Ytjfmhppgjhgdaaa
