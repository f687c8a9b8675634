/- Steps of states that were played: exit, and behind the end. -/
import Derived.Test.YtcnpoldcebdhjaaPl2
namespace Go.Proofs.Ytcnpoldcebdhjaa
open Go.ChangeShapes Go.WideShapes Go.ChangeAt Go.RowKit
set_option maxRecDepth 100000
set_option linter.unusedSimpArgs false
set_option linter.unusedVariables false
theorem and255_is (n : Int) : and255 n = n % 256 := by
  unfold and255
  have h255 : (BitVec.ofInt 64 255).toNat = 2 ^ 8 - 1 := by decide
  have key : (BitVec.ofInt 64 n &&& BitVec.ofInt 64 255).toNat = (n % ((2 ^ 64 : Nat) : Int)).toNat % 2 ^ 8 := by
    rw [BitVec.toNat_and, BitVec.toNat_ofInt, h255, Nat.and_two_pow_sub_one_eq_mod]
  show IntKind.i64.wrap ((BitVec.ofInt 64 n &&& BitVec.ofInt 64 255).toNat : Nat) = n % 256
  rw [key, IntKind.wrap_i64]
  omega
theorem spotI_256 (n : Int) : spotI n 256 = n % 256 := by
  unfold spotI
  rcases Int.le_total 0 n with h | h
  · rw [Int.tmod_eq_emod_of_nonneg h, if_neg (by omega)]
  · have h1 : n.tmod 256 = -((-n) % 256) := by
      have h2 := Int.neg_tmod (-n) 256
      rw [Int.neg_neg] at h2
      rw [h2, Int.tmod_eq_emod_of_nonneg (by omega)]
    rw [h1]
    split <;> omega
theorem own_ended (s : So) (e : Ev) (lo : Option Addr) (ln lc : Nat) (w : World) (h : SOwn w s) (hok : TakeOk s.st []) (h0 : s.st.fin ≠ 0) :
    Calls Try.prog 14 #[s.val, e.val lo ln lc] w fun x w' => x = .returned (.tuple #[zeroSt, .slice none 0 0, .int .i64 17]) ∧ Below w.heap.size w w' := by
  have hc : s.st.code e = 17 := by unfold St.code; rw [if_pos (.inl h0)]
  refine (own_step _ _ s.es s.st e lo ln lc w h.lies hok).mono ?_
  rintro x w' ⟨(⟨-, rfl⟩ | ⟨hc2, -⟩), hb⟩
  · exact ⟨by rw [hc], hb⟩
  · rw [hc] at hc2; cases hc2
theorem own_exit (s : So) (a : Int) (lo : Option Addr) (ln lc : Nat) (i : Nat) (w : World) (h : SOwn w s) (hf : Fit i s.st) (hi : i ≤ 400) (h0 : s.st.fin = 0) :
    Calls Try.prog 14 #[s.val, Ev.val ⟨6, a, 0, 0, ⟨#[]⟩⟩ lo ln lc] w fun x w' => (∃ s' g tc, s'.st = s.st.done 3 (and255 a) ∧ x = .returned (.tuple #[So.val s', .slice (some ⟨g, 0, none⟩) 1 tc, .int .i64 0]) ∧ SOwn w' s' ∧ TakeOk s'.st [] ∧ g < w'.heap.size ∧ w'.cell? ⟨g, 0, none⟩ = some (.int .i64 7) ∧ w'.cell? ⟨g, 1, none⟩ = some (.int .i64 3)) ∧ Below w.heap.size w w' := by
  have hst : s.st.step [] ⟨6, a, 0, 0, ⟨#[]⟩⟩ = (s.st.done 3 (and255 a), [tEnd 3]) := by
    unfold St.step
    cases hfr : s.st.fr with
    | nil => exact absurd hfr (hf.ok.u.ne h0)
    | cons f r => rfl
  refine (own_stepS s ⟨6, a, 0, 0, ⟨#[]⟩⟩ lo ln lc i w h hf.ok (by omega) h0 ⟨⟨by show (1 : Int) ≤ 6; decide, by show (6 : Int) ≤ 6; decide⟩, fun hh => absurd (show (6 : Int) = 4 from hh) (by decide)⟩).mono ?_
  rintro x w' ⟨⟨s', t', h1, h2, rfl, h3, h4⟩, hb⟩
  rw [hst] at h1 h2
  refine ⟨?_, hb⟩
  obtain ⟨td, to, tc⟩ := t'
  simp only at h2
  subst h2
  have hk : ([tEnd 3] : List Tl)[0]? = some (tEnd 3) := rfl
  obtain ⟨g, cap, hv, -, hg, hc, -, -⟩ := own_at Tl.len h4 hk
  simp only [Value.slice.injEq] at hv
  obtain ⟨rfl, -, -⟩ := hv
  have ht := hf.take (i := i) (by omega)
  refine ⟨s', g, tc, h1, rfl, h3, ?_, hg, hc 0 _ rfl, hc 1 _ rfl⟩
  rw [h1]
  exact ⟨ht.fr, ht.df, ht.ps, ht.td, ht.n0, ht.n1, ht.s0, ht.s1, ht.rm⟩
end Go.Proofs.Ytcnpoldcebdhjaa
