/- Memory: an event that came in; what Step answers, whatever the state. -/
import Derived.Test.YtcnpoldcebdhjaaPmem3
import Derived.Test.YtcnpoldcebdhjaaEcame
namespace Go.Proofs.Ytcnpoldcebdhjaa
open Go.ChangeShapes Go.WideShapes Go.ChangeAt Go.RowKit
set_option maxRecDepth 100000
set_option linter.unusedSimpArgs false
set_option linter.unusedVariables false
section
variable {H : Type} {enc : TypeId × Value → H} {W : World}
theorem ev_came {r : Reach} {b0 : Nat} {v : Value} {d : DataW H} {p : List MemPlace} {ts : List TypeId} {ds : List (DataW H)} {j : Nat}
    (hv : Value.okWide Try.prog W r b0 34 v) (h : DataW.Trod enc Try.prog W 0 (fun _ => true) true 34 v d p)
    (hsz : (DataW.weightsEach Try.prog ts ds).all (· ≤ reachBytes) = true) (ht : ts[j]? = some 34) (hd : ds[j]? = some d) :
    ∃ e : Eo, v = .agg #[.int .i64 e.x.k, .int .i64 e.x.n, .int .i64 e.x.vk, .int .i64 e.x.vn, .string e.x.vs, .slice e.lo e.ln e.lc] ∧ ∃ l, l.length = e.ln ∧ ILies W e.L l ∧ l.length * 8 ≤ 140737488351232 := by
  obtain ⟨cs, rfl, hcsz⟩ := okWide_struct Try.underlying34 hv
  have hw : ∀ n ∈ d.weights Try.prog 34, n ≤ 140737488351232 := fun n hn => by
    have := List.all_eq_true.1 hsz _ (DataW.weights_mem_each ht hd _ hn)
    exact of_decide_eq_true this
  obtain ⟨fuel, hf0⟩ := h
  obtain ⟨e, he, hl⟩ := ev_read hf0 (Nat.le_refl _) hw
  refine ⟨e, ?_, hl⟩
  have h1 : cs.toList = e.cells := he
  obtain ⟨l⟩ := cs
  simp only at h1
  subst h1
  rfl
end
/-- What holds of the numbers of activations. -/
theorem rl_states {l : List Ev} (hn : ∀ e ∈ l, Norm e) : ∀ s ∈ bSt :: (trace bSt l).map (·.1), ∃ q, RL s q := fun s hs => by
  obtain ⟨j, -, -, hq⟩ := trace_all (fun i st => Fit i st ∧ ∃ q, RL st q) (fun i st e h h0 hne => by
    obtain ⟨h1, q, h2⟩ := h
    refine ⟨⟨h1.ok.step h0 hne, h1.ok.rm h0 hne⟩, ?_⟩
    cases hfr : st.fr with
    | nil => exact absurd hfr (h1.ok.u.ne h0)
    | cons f r =>
      by_cases h3 : e.k = 3
      · obtain ⟨-, S, top, -, -, h5⟩ := step_keep h2 hfr h3
        exact ⟨_, h5⟩
      · exact ⟨_, (step_rl h2 hfr h3).2⟩) l 0 bSt ⟨⟨Ok.start, fun f r hf hm => by simp only [bSt, List.cons.injEq] at hf; rw [← hf.1] at hm; cases hm⟩, _, rl_start⟩ hn s hs
  exact hq
def noSt : St := ⟨[], [], 0, 0, 0, 0⟩
/-- Step, whatever the state of those that events come to. -/
theorem own_stepU (F P : Value) (fes : List Fe) (st : St) (e : Ev) (lo : Option Addr) (ln lc : Nat) (i : Nat) (w : World) (h : SLies w F P fes st) (hf : Fit i st) (hi : i ≤ 500000) (hn : Norm e) (hq : ∃ q, RL st q) :
    Calls Try.prog 14 #[st.val F P, e.val lo ln lc] w fun x w' => ∃ F' P' T' es st' td' c, x = .returned (.tuple #[st'.val F' P', T', .int .i64 c]) ∧ Stepped w.heap.size w' F' P' T' es st' td' ∧ (∀ f ∈ st'.fr, 0 ≤ f.id) ∧ st'.fr.length ≤ 30 ∧ st'.ps.length ≤ i + 1 ∧ (∀ f ∈ st'.fr, f.df.length ≤ i + 1) ∧ Below w.heap.size w w' := by
  refine (own_step F P fes st e lo ln lc w h (hf.take hi)).mono ?_
  rintro x w' ⟨(⟨hc, rfl⟩ | ⟨hc, F', P', T', es, rfl, hs⟩), hb⟩
  · refine ⟨.slice none 0 0, .slice none 0 0, .slice none 0 0, [], noSt, [], st.code e, rfl, ⟨⟨World.ownsRow_nil _ _ _ _, fun e he => (by cases he), List.Pairwise.nil, rfl⟩, World.ownsRow_nil _ _ _ _, World.ownsRow_nil _ _ _ _⟩, fun f hf => (by cases hf), by simp [noSt], by simp [noSt], fun f hf => (by cases hf), hb⟩
  · by_cases h0 : st.fin = 0
    · obtain ⟨q, hq⟩ := hq
      have hok := hf.ok.step h0 hn
      have hids : ∀ f ∈ (st.step [] e).1.fr, 0 ≤ f.id := by
        cases hfr : st.fr with
        | nil => exact absurd hfr (hf.ok.u.ne h0)
        | cons f r =>
          have hr : ∃ q', RL (st.step [] e).1 q' := by
            by_cases h3 : e.k = 3
            · obtain ⟨-, S, top, -, -, h5⟩ := step_keep hq hfr h3
              exact ⟨_, h5⟩
            · exact ⟨_, (step_rl hq hfr h3).2⟩
          obtain ⟨q', hr⟩ := hr
          intro f2 hf2
          obtain ⟨m, hm, -⟩ := hr.k (f2.id, f2.df) (List.mem_map.2 ⟨f2, hf2, rfl⟩)
          simp only at hm
          omega
      exact ⟨F', P', T', es, _, _, 0, rfl, hs, hids, hok.bd.fr, hok.bd.ps, hok.bd.df, hb⟩
    · unfold St.code at hc
      rw [if_pos (.inl h0)] at hc
      cases hc
end Go.Proofs.Ytcnpoldcebdhjaa
