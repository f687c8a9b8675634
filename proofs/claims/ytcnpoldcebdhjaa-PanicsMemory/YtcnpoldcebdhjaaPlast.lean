/- Deferred calls start last first: what the law keeps on its way. -/
import Derived.Test.YtcnpoldcebdhjaaPcrash
namespace Go.Proofs.Ytcnpoldcebdhjaa
set_option linter.unusedSimpArgs false
set_option linter.unusedVariables false
/-- Of each activation what it keeps, and which activations there are. -/
abbrev LK := List (List Int) × List Int
def topN (q : LK) : Nat := (q.2.getLastD 0).toNat
def lkN (q : LK) (x : Tl) : LK :=
  if x.k = 1 then (q.1 ++ [[]], q.2 ++ [x.n])
  else if x.k = 2 then (q.1.set (topN q) (q.1.getD (topN q) []).dropLast ++ [[]], q.2 ++ [x.to])
  else if x.k = 3 ∨ x.k = 4 then (q.1, q.2.dropLast)
  else q
def lkR (q : LK) (td : List Tl) : LK := td.foldl lkN q
def lkOk (q : LK) (x : Tl) : Prop :=
  (x.k = 1 → x.n = q.1.length) ∧
  (x.k = 2 → ∃ (S : List Int) (top : Nat) (l : List Int), q.2 = S ++ [(top : Int)] ∧ q.1[top]? = some (l ++ [x.n]) ∧ x.to = q.1.length) ∧
  (x.k = 3 ∨ x.k = 4 → ∃ (S : List Int) (m : Nat), q.2 = S ++ [(m : Int)] ∧ x.n = m ∧ q.1[m]? = some [])
def lkAll : LK → List Tl → Prop
  | _, [] => True
  | q, x :: r => lkOk q x ∧ lkAll (lkN q x) r
theorem lkR_one (q : LK) (x : Tl) : lkR q [x] = lkN q x := rfl
theorem lkR_two (q : LK) (x y : Tl) : lkR q [x, y] = lkN (lkN q x) y := rfl
theorem lkAll_app : ∀ (a b : List Tl) (q : LK), lkAll q (a ++ b) ↔ lkAll q a ∧ lkAll (lkR q a) b
  | [], b, q => by simp [lkAll, lkR]
  | x :: a, b, q => by
    have := lkAll_app a b (lkN q x)
    simp only [List.cons_append, lkAll, this, lkR, List.foldl_cons]
    exact and_assoc.symm
theorem lkR_app (q : LK) (a b : List Tl) : lkR q (a ++ b) = lkR (lkR q a) b := by simp [lkR]
theorem lkR_take {q : LK} {td : List Tl} {i : Nat} {x : Tl} (h : td[i]? = some x) : lkR q (td.take (i + 1)) = lkN (lkR q (td.take i)) x := by
  rw [List.take_add_one, h, lkR_app]; rfl
theorem lkAll_at {q : LK} {td : List Tl} {i : Nat} {x : Tl} (h : lkAll q td) (hx : td[i]? = some x) : lkOk (lkR q (td.take i)) x := by
  have hi := (List.getElem?_eq_some_iff.1 hx).1
  have e : td = td.take i ++ x :: td.drop (i + 1) := by
    rw [← (List.getElem?_eq_some_iff.1 hx).2, ← List.drop_eq_getElem_cons hi, List.take_append_drop]
  rw [e, lkAll_app] at h
  exact h.2.1
theorem lkN_grow (q : LK) (x : Tl) : q.1.length ≤ (lkN q x).1.length ∧ (lkN q x).2.length + q.1.length ≤ q.2.length + (lkN q x).1.length := by
  unfold lkN
  split
  · simp; omega
  · split
    · simp; omega
    · split
      · simp
      · simp
theorem lkR_grow : ∀ (td : List Tl) (q : LK), q.1.length ≤ (lkR q td).1.length ∧ (lkR q td).2.length + q.1.length ≤ q.2.length + (lkR q td).1.length
  | [], q => by simp [lkR]
  | x :: r, q => by
    have h1 := lkN_grow q x
    have h2 := lkR_grow r (lkN q x)
    have e : lkR q (x :: r) = lkR (lkN q x) r := rfl
    rw [e]; omega
theorem lkR_part {td : List Tl} {q : LK} (i : Nat) : (lkR q (td.take i)).1.length ≤ (lkR q td).1.length := by
  have h := (lkR_grow (td.drop i) (lkR q (td.take i))).1
  rw [← lkR_app, List.take_append_drop] at h
  exact h
theorem lkN_one {q : LK} {x : Tl} (h : x.k = 1) : lkN q x = (q.1 ++ [[]], q.2 ++ [x.n]) := by unfold lkN; rw [if_pos h]
theorem lkN_two {q : LK} {x : Tl} {S : List Int} {top : Nat} {l : List Int} (h : x.k = 2) (hs : q.2 = S ++ [(top : Int)]) (hl : q.1[top]? = some (l ++ [x.n])) : lkN q x = (q.1.set top l ++ [[]], q.2 ++ [x.to]) := by
  have ht : topN q = top := by unfold topN; rw [hs]; simp
  have hg : q.1.getD top [] = l ++ [x.n] := by rw [List.getD_eq_getElem?_getD, hl]; rfl
  unfold lkN
  rw [if_neg (by omega), if_pos h, ht, hg, List.dropLast_concat]
theorem lkN_gone {q : LK} {x : Tl} {S : List Int} {t : Int} (h : x.k = 3 ∨ x.k = 4) (hs : q.2 = S ++ [t]) : lkN q x = (q.1, S) := by
  unfold lkN
  rw [if_neg (by omega), if_neg (by omega), if_pos h, hs, List.dropLast_concat]
theorem lkN_else {q : LK} {x : Tl} (h1 : x.k ≠ 1) (h2 : x.k ≠ 2) (h3 : x.k ≠ 3) (h4 : x.k ≠ 4) : lkN q x = q := by
  unfold lkN
  rw [if_neg h1, if_neg h2, if_neg (by omega)]
theorem lkOk_else {q : LK} {x : Tl} (h1 : x.k ≠ 1) (h2 : x.k ≠ 2) (h3 : x.k ≠ 3) (h4 : x.k ≠ 4) : lkOk q x := ⟨fun h => absurd h h1, fun h => absurd h h2, fun h => by omega⟩
theorem okE (q : LK) (e : Int) : lkOk q (tEnd e) := lkOk_else (by show (7 : Int) ≠ 1; decide) (by show (7 : Int) ≠ 2; decide) (by show (7 : Int) ≠ 3; decide) (by show (7 : Int) ≠ 4; decide)
theorem nxE (q : LK) (e : Int) : lkN q (tEnd e) = q := lkN_else (by show (7 : Int) ≠ 1; decide) (by show (7 : Int) ≠ 2; decide) (by show (7 : Int) ≠ 3; decide) (by show (7 : Int) ≠ 4; decide)
/-- Activations, by what they keep (last first), and what the law keeps. -/
structure RLp (ps : List (Int × List Int)) (next : Int) (q : LK) : Prop where
  s : q.2 = (ps.map (·.1)).reverse
  n : next = q.1.length
  k : ∀ p ∈ ps, ∃ m : Nat, p.1 = m ∧ q.1[m]? = some p.2.reverse
  d : (ps.map (·.1)).Pairwise (fun a b => b < a)
theorem RLp.push {ps : List (Int × List Int)} {next : Int} {q : LK} (h : RLp ps next q) : RLp ((next, []) :: ps) (next + 1) (q.1 ++ [[]], q.2 ++ [next]) := by
  refine ⟨by simp [h.s], by have := h.n; simp; omega, fun p hp => ?_, ?_⟩
  · rcases List.mem_cons.1 hp with rfl | hp
    · refine ⟨q.1.length, h.n, ?_⟩
      show (q.1 ++ [[]])[q.1.length]? = some [].reverse
      rw [List.getElem?_append_right (Nat.le_refl _)]; simp
    · obtain ⟨m, h1, h2⟩ := h.k p hp
      refine ⟨m, h1, ?_⟩
      show (q.1 ++ [[]])[m]? = _
      rw [List.getElem?_append_left (List.getElem?_eq_some_iff.1 h2).1]; exact h2
  · rw [List.map_cons, List.pairwise_cons]
    refine ⟨fun b hb => ?_, h.d⟩
    obtain ⟨p, hp, rfl⟩ := List.mem_map.1 hb
    obtain ⟨m, h1, h2⟩ := h.k p hp
    have := (List.getElem?_eq_some_iff.1 h2).1
    have h3 := h.n
    show p.1 < next
    omega
theorem RLp.upd {ps : List (Int × List Int)} {next i : Int} {ds : List Int} {q : LK} (h : RLp ((i, ds) :: ps) next q) :
    ∃ (S : List Int) (top : Nat), i = top ∧ q.2 = S ++ [(top : Int)] ∧ q.1[top]? = some ds.reverse ∧ ∀ es, RLp ((i, es) :: ps) next (q.1.set top es.reverse, q.2) := by
  obtain ⟨m, h1, h2⟩ := h.k (i, ds) (by simp)
  simp only at h1 h2
  have hm := (List.getElem?_eq_some_iff.1 h2).1
  refine ⟨(ps.map (·.1)).reverse, m, h1, by rw [h.s, List.map_cons, List.reverse_cons, ← h1], h2, fun es => ⟨h.s, by have := h.n; simpa using this, fun p hp => ?_, h.d⟩⟩
  rcases List.mem_cons.1 hp with rfl | hp
  · exact ⟨m, h1, List.getElem?_set_self hm⟩
  · obtain ⟨m2, g1, g2⟩ := h.k p (by simp [hp])
    refine ⟨m2, g1, ?_⟩
    have hd := h.d
    rw [List.map_cons, List.pairwise_cons] at hd
    have hlt := hd.1 p.1 (List.mem_map.2 ⟨p, hp, rfl⟩)
    show (q.1.set m es.reverse)[m2]? = _
    simp only at hlt
    rw [List.getElem?_set_ne (by omega)]
    exact g2
theorem RLp.gone {ps : List (Int × List Int)} {next i : Int} {q : LK} (h : RLp ((i, []) :: ps) next q) :
    ∃ (S : List Int) (m : Nat), q.2 = S ++ [(m : Int)] ∧ i = m ∧ q.1[m]? = some [] ∧ RLp ps next (q.1, S) := by
  obtain ⟨m, h1, h2⟩ := h.k (i, []) (by simp)
  have hd := h.d
  rw [List.map_cons, List.pairwise_cons] at hd
  refine ⟨(ps.map (·.1)).reverse, m, by rw [h.s, List.map_cons, List.reverse_cons]; rw [← h1], h1, h2, ⟨rfl, h.n, fun p hp => h.k p (by simp [hp]), hd.2⟩⟩
def prs (fr : List Fr) : List (Int × List Int) := fr.map (fun f => (f.id, f.df))
def RL (st : St) (q : LK) : Prop := RLp (prs st.fr) st.next q
theorem dropS_rl {st : St} {f : Fr} {r : List Fr} {q : LK} (h : RL st q) (hf : st.fr = f :: r) (hd : f.df = []) : lkAll q (st.dropS f r).2 ∧ RL (st.dropS f r).1 (lkR q (st.dropS f r).2) := by
  unfold RL at h
  rw [hf, prs, List.map_cons, hd] at h
  obtain ⟨S, m, h1, h2, h3, h4⟩ := h.gone
  have ok : ∀ k : Int, k = 3 ∨ k = 4 → lkOk q ⟨k, f.id, 0, .nix⟩ := fun k hk => ⟨fun h => by simp only at h; omega, fun h => by simp only at h; omega, fun _ => ⟨S, m, h1, h2, h3⟩⟩
  have nx : ∀ k : Int, k = 3 ∨ k = 4 → lkN q ⟨k, f.id, 0, .nix⟩ = (q.1, S) := fun k hk => lkN_gone hk h1
  unfold St.dropS
  split
  · unfold St.leftS
    cases r with
    | nil =>
      simp only
      refine ⟨⟨ok 3 (.inl rfl), okE _ _, trivial⟩, ?_⟩
      try dsimp only
      rw [lkR_two, nx 3 (.inl rfl), nxE]; exact h4
    | cons g r =>
      simp only
      split
      · refine ⟨⟨ok 3 (.inl rfl), trivial⟩, ?_⟩
        try dsimp only
        rw [lkR_one, nx 3 (.inl rfl)]; exact h4
      · refine ⟨⟨ok 3 (.inl rfl), trivial⟩, ?_⟩
        try dsimp only
        rw [lkR_one, nx 3 (.inl rfl)]; exact h4
  · unfold St.passedS
    cases r with
    | nil =>
      simp only
      refine ⟨⟨ok 4 (.inr rfl), okE _ _, trivial⟩, ?_⟩
      try dsimp only
      rw [lkR_two, nx 4 (.inr rfl), nxE]; exact h4
    | cons g r =>
      simp only
      refine ⟨⟨ok 4 (.inr rfl), trivial⟩, ?_⟩
      try dsimp only
      rw [lkR_one, nx 4 (.inr rfl)]; exact h4
theorem startS_rl {st : St} {f : Fr} {r : List Fr} {d : Int} {ds : List Int} {q : LK} (h : RL st q) (hf : st.fr = f :: r) (hd : f.df = d :: ds) : lkAll q (st.startS f r d ds).2 ∧ RL (st.startS f r d ds).1 (lkR q (st.startS f r d ds).2) := by
  unfold St.startS
  split
  · refine ⟨⟨okE _ _, trivial⟩, ?_⟩
    try dsimp only
    rw [lkR_one, nxE]; exact h
  · unfold RL at h
    rw [hf, prs, List.map_cons, hd] at h
    obtain ⟨S, top, h1, h2, h3, h4⟩ := h.upd
    rw [List.reverse_cons] at h3
    have hn := h.n
    refine ⟨⟨⟨(fun h => by simp only at h; omega), (fun _ => ⟨S, top, ds.reverse, h2, h3, hn⟩), (fun h => by simp only at h; omega)⟩, trivial⟩, ?_⟩
    try dsimp only
    rw [lkR_one, lkN_two rfl h2 h3]
    have := (h4 ds).push
    simp only at this
    exact this
theorem unwind_rl : ∀ (n : Nat) (st : St) (td : List Tl) (q : LK), lkAll q td → RL st (lkR q td) → lkAll q (unwind n st td).2 ∧ RL (unwind n st td).1 (lkR q (unwind n st td).2)
  | 0, st, td, q, h1, h2 => ⟨h1, h2⟩
  | n + 1, st, td, q, h1, h2 => by
    unfold unwind
    by_cases hm : st.more = true
    · rw [if_pos hm]
      obtain ⟨h0, f, r, hf, hp⟩ := more_is hm
      rcases hd : f.df with _ | ⟨d, ds⟩
      · have hu : st.unw1 = st.dropS f r := by unfold St.unw1; rw [hf]; simp only [hd]
        rw [hu]
        obtain ⟨g1, g2⟩ := dropS_rl h2 hf hd
        exact unwind_rl n _ _ q ((lkAll_app _ _ _).2 ⟨h1, g1⟩) (by rw [lkR_app]; exact g2)
      · have hu : st.unw1 = st.startS f r d ds := by unfold St.unw1; rw [hf]; simp only [hd]
        rw [hu]
        obtain ⟨g1, g2⟩ := startS_rl h2 hf hd
        exact unwind_rl n _ _ q ((lkAll_app _ _ _).2 ⟨h1, g1⟩) (by rw [lkR_app]; exact g2)
    · rw [if_neg hm]; exact ⟨h1, h2⟩
/-- What comes of an event but of one that keeps a call. -/
theorem step_rl {st : St} {e : Ev} {f : Fr} {r : List Fr} {q : LK} (h : RL st q) (hf : st.fr = f :: r) (h3 : e.k ≠ 3) : lkAll q (st.step [] e).2 ∧ RL (st.step [] e).1 (lkR q (st.step [] e).2) := by
  unfold St.step
  rw [hf]
  simp only
  split
  · unfold St.callS
    split
    · refine ⟨⟨okE _ _, trivial⟩, ?_⟩
      try dsimp only
      rw [List.nil_append, lkR_one, nxE]; exact h
    · have hn := h.n
      refine ⟨⟨⟨(fun _ => hn), (fun h => by simp only at h; omega), (fun h => by simp only at h; omega)⟩, trivial⟩, ?_⟩
      try dsimp only
      rw [List.nil_append, lkR_one, lkN_one rfl]
      exact h.push
  · split
    · refine unwind_rl _ _ _ _ trivial ?_
      show RLp (prs ({ f with ph := 1 } :: r)) st.next q
      unfold RL at h; rw [hf] at h; exact h
    · split
      · refine unwind_rl _ _ _ _ trivial ?_
        show RLp (prs ({ f with ph := 2 } :: r)) st.next q
        unfold RL at h; rw [hf] at h; exact h
      · split
        · have okN : lkOk q tNo := lkOk_else (by decide) (by decide) (by decide) (by decide)
          have nxN : lkN q tNo = q := lkN_else (by decide) (by decide) (by decide) (by decide)
          unfold St.recS
          cases st.ps with
          | nil =>
            refine ⟨⟨okN, trivial⟩, ?_⟩
            try dsimp only
            rw [List.nil_append, lkR_one, nxN]; exact h
          | cons p ps =>
            simp only
            split
            · refine ⟨⟨lkOk_else (by show (5 : Int) ≠ 1; decide) (by show (5 : Int) ≠ 2; decide) (by show (5 : Int) ≠ 3; decide) (by show (5 : Int) ≠ 4; decide), trivial⟩, ?_⟩
              try dsimp only
              rw [List.nil_append, lkR_one, lkN_else (by show (5 : Int) ≠ 1; decide) (by show (5 : Int) ≠ 2; decide) (by show (5 : Int) ≠ 3; decide) (by show (5 : Int) ≠ 4; decide)]; exact h
            · refine ⟨⟨okN, trivial⟩, ?_⟩
              try dsimp only
              rw [List.nil_append, lkR_one, nxN]; exact h
        · refine ⟨⟨okE _ _, trivial⟩, ?_⟩
          try dsimp only
          rw [List.nil_append, lkR_one, nxE]; exact h
/-- What comes of an event that keeps a call. -/
theorem step_keep {st : St} {e : Ev} {f : Fr} {r : List Fr} {q : LK} (h : RL st q) (hf : st.fr = f :: r) (h3 : e.k = 3) :
    (st.step [] e).2 = [] ∧ ∃ (S : List Int) (top : Nat) , q.2 = S ++ [(top : Int)] ∧ q.1[top]? = some f.df.reverse ∧ RL (st.step [] e).1 (q.1.set top (f.df.reverse ++ [e.n]), q.2) := by
  unfold RL at h
  rw [hf, prs, List.map_cons] at h
  obtain ⟨S, top, h1, h2, h4, h5⟩ := h.upd
  have hs : st.step [] e = ({ st with fr := { f with df := e.n :: f.df } :: r }, []) := by
    unfold St.step; rw [hf]; simp only; rw [if_neg (by omega), if_neg (by omega), if_pos h3]
  rw [hs]
  refine ⟨rfl, S, top, h2, h4, ?_⟩
  have := h5 (e.n :: f.df)
  rw [List.reverse_cons] at this
  exact this
theorem rl_start : RL bSt ([[]], [0]) := ⟨rfl, rfl, fun p hp => by simp [prs, bSt, bFr] at hp; subst hp; exact ⟨0, rfl, rfl⟩, by simp [prs, bSt, bFr]⟩
theorem trace_at2 : ∀ (l : List Ev) (st : St) (k : Nat) (x : St × List Tl), (trace st l)[k]? = some x → ∃ s e, (st :: (trace st l).map (·.1))[k]? = some s ∧ l[k]? = some e ∧ s.fin = 0 ∧ x = s.step [] e
  | [], st, k, x, h => by simp [trace] at h
  | e :: r, st, k, x, h => by
    by_cases h0 : st.fin = 0
    · unfold trace at h ⊢
      rw [if_pos h0] at h ⊢
      rcases k with _ | k
      · simp at h
        exact ⟨st, e, rfl, rfl, h0, h.symm⟩
      · simp only [List.getElem?_cons_succ] at h
        obtain ⟨s, e2, h1, h2, h3, h4⟩ := trace_at2 r _ k x h
        exact ⟨s, e2, by simpa using h1, by simpa using h2, h3, h4⟩
    · rw [trace_end h0] at h
      simp at h
theorem Played.goes {w : Go.World} {S Al : Go.Value} {l : List Ev} {ss : List So} {ts : List To} (h : Played w S Al l ss ts) {k : Nat} {s s' : So} {t : To} (hs : ss[k]? = some s) (ht : ts[k]? = some t) (hs' : ss[k + 1]? = some s') :
    ∃ e f r, l[k]? = some e ∧ s.st.fin = 0 ∧ t.td = (s.st.step [] e).2 ∧ s'.st = (s.st.step [] e).1 ∧ s.st.fr = f :: r ∧ f.df.length ≤ 400 ∧ s'.st.next ≤ 402 := by
  have h1 : (ts.map (·.td))[k]? = some t.td := by simp [ht]
  rw [h.td] at h1
  simp only [List.getElem?_map, Option.map_eq_some_iff] at h1
  obtain ⟨x, hx, hxe⟩ := h1
  obtain ⟨s1, e, g1, g2, g3, g4⟩ := trace_at2 l bSt k x hx
  have h2 : (ss.map (·.st))[k]? = some s.st := by simp [hs]
  rw [h.st] at h2
  rw [h2] at g1
  cases g1
  have h5 : (ss.map (·.st))[k + 1]? = some s'.st := by simp [hs']
  rw [h.st] at h5
  simp only [List.getElem?_cons_succ, List.getElem?_map, hx, Option.map_some, Option.some.injEq] at h5
  obtain ⟨j, hj, hf⟩ := h.fit s (List.mem_of_getElem? hs)
  obtain ⟨j', hj', hf'⟩ := h.fit s' (List.mem_of_getElem? hs')
  have hne := hf.ok.u.ne g3
  cases hfr : s.st.fr with
  | nil => exact absurd hfr hne
  | cons f r => exact ⟨e, f, r, g2, g3, by rw [← hxe, g4], by rw [← h5, g4], rfl, by have := hf.ok.bd.df f (by rw [hfr]; simp); omega, by have := hf'.ok.bd.nx; omega⟩
end Go.Proofs.Ytcnpoldcebdhjaa
