/- What is shown is cut into the same tokens: the walk of the law. -/
import Derived.Test.YtljdfaoplenloabDoorBackp
import Derived.Test.YtljdfaoplenloabDoorTcame
import Derived.Test.YtljdfaoplenloabDoorRwalk
import Derived.Laws.AppendOwnNone
namespace Go.Proofs.YtljdfaoplenloabDoor
open Go.ChangeShapes Go.WideShapes Go.ChangeAt Go.RowKit
set_option maxRecDepth 100000
set_option linter.unusedSimpArgs false
set_option linter.unusedVariables false

/-- A copy of tokens that came in: append to nothing. -/
theorem tcopy {w : World} {v : Value} {l : List Tj} {ops : Array Oper} {rest : List Oper} {o : Oper} {a : Act} {Q : Exit → Act → World → Prop} (hgd : o.guard = none) (s x : Operand)
    (ho : o.op = .call { callee := .builtin .append, args := #[s, x], argTypes := #[22, 22] }) (hs : a.eval s = .slice none 0 0) (hx : a.eval x = v)
    (hC : TCame w v l) (hN : l.length * 40 ≤ 140737488355328)
    (h : ∀ v' w', TLies w' v' l → Below w.heap.size w w' → wpList Tryd.prog ops Q rest (a.put o.dst v') w') : wpList Tryd.prog ops Q (o :: rest) a w := by
  obtain ⟨i0, hi, hz0, hz1, hz2⟩ := info_parts Tryd.infoTok
  rcases hC with ⟨rfl, rfl⟩ | ⟨ad, cap, rfl, h2, h3, h4⟩
  · refine wpList_append_own_none hgd s x 22 ho w.heap.size 34 i0 4 Tryd.underlying22 hi (.slice none 0 0) 0 [] hs (World.ownsRow_nil _ _ _ _) hx (h _ _ ⟨none, 0, rfl, fun h => absurd rfl h⟩ (Below.refl _ _))
  · refine wpList_append_own _ hgd s x 22 ho w.heap.size 34 i0 _ 4 40 Tryd.underlying22 hi hz0 hz1 hz2 rfl (by decide) (.slice none 0 0) 0 [] hs (World.ownsRow_nil _ _ _ _) ad l.length cap (jcells l) hx (jcells_len l) h4 (jcells_one l) ?_ ?_ (Nat.le_refl _) ?_
    · unfold maxLen; omega
    · omega
    · intro v' w' hown hgrow _
      rw [Nat.zero_add, List.nil_append] at hown
      exact h v' w' (tlies_row hown) ((Below.refl _ _).grown hgrow (Nat.le_refl _) (fun q hq => by cases hq))
theorem TCame.shape {w : World} {v : Value} {l : List Tj} (h : TCame w v l) : ∃ ao cap, v = .slice ao l.length cap := by
  rcases h with ⟨h, rfl⟩ | ⟨a, cap, h, _⟩
  · exact ⟨none, 0, h⟩
  · exact ⟨_, _, h⟩
set_option maxHeartbeats 4000000 in
theorem own_alike2 (la : List Tj) (lb : List Tk) (B : Nat) (w : World) (v : Value) (bo : Option Addr) (cb : Nat) (hs : KK lb = KT la ∨ KK lb = KT la ++ [(6, ⟨#[59]⟩)]) (hA : TCame w v la) (hl : la.length ≤ 2000) (hB : w.ownsRow B 34 4 (.slice bo lb.length cb) lb.length (tcells lb)) :
    Calls Tryd.prog 10 #[v, .slice bo lb.length cb, .bool true] w fun e w' => e = .returned (.bool true) ∧ ∃ m, w' = w.drewN m := by
  obtain ⟨ao, ca, rfl⟩ := hA.shape
  have HA : Hid (TCame w (.slice ao la.length ca) la) := hA
  have HB : Hid (w.ownsRow B 34 4 (.slice bo lb.length cb) lb.length (tcells lb)) := hB
  have HS : Hid (∀ (k : Nat) x, la[k]? = some x → ∃ y, lb[k]? = some y ∧ y.kind = x.kind ∧ y.text = x.text) := fun k x hx => by
    have hk := (List.getElem?_eq_some_iff.1 hx).1
    have e : (KK lb)[k]? = some (x.kind, x.text) := by
      rcases hs with h | h
      · rw [h]; simp [KT, hx]
      · rw [h, List.getElem?_append_left (by simpa [KT] using hk)]; simp [KT, hx]
    unfold KK at e
    rw [List.getElem?_map] at e
    cases hy : lb[k]? with
    | none => rw [hy] at e; cases e
    | some y =>
      rw [hy] at e
      simp at e
      exact ⟨y, rfl, e.1, e.2⟩
  have hlen : lb.length = la.length ∨ (lb.length = la.length + 1 ∧ ∃ y, lb[la.length]? = some y ∧ y.kind = 6) := by
    rcases hs with h | h
    · left; have := congrArg List.length h; simpa [KK, KT] using this
    · right
      have h1 := congrArg List.length h
      simp [KK, KT] at h1
      refine ⟨h1, ?_⟩
      have h2 := congrArg (·[la.length]?) h
      simp only [KK, KT, List.getElem?_map] at h2
      rw [List.getElem?_append_right (by simp)] at h2
      simp at h2
      obtain ⟨y, hy, hk, _⟩ := h2
      exact ⟨y, hy, hk⟩
  clear hA hB hs
  rcases hlen with hlen | ⟨hlen, y6, hy6, hk6⟩
  · have b1 : ((lb.length : Int) != (la.length : Int)) = false := by rw [hlen]; simp
    rw [hlen] at HB ⊢
    clear b1
    go_enter Tryd.func10, Tryd.ntmps10
    go_wp2
    go_loopw [7] (fun i wr => ∃ (k m : Nat), k ≤ la.length ∧ i = .int .i64 k ∧ wr = w.drewN m) (fun i _ => la.length - (intOf i).toNat)
    case atStart => exact ⟨0, 0, Nat.zero_le _, rfl, rfl⟩
    case round =>
      obtain ⟨k, m, hk, rfl, rfl⟩ := hrel
      by_cases hlt : k < la.length
      · obtain ⟨x, hx⟩ : ∃ x, la[k]? = some x := ⟨la[k], List.getElem?_eq_getElem hlt⟩
        obtain ⟨y, hy, e1, e2⟩ := HS.out k x hx
        obtain ⟨g, off, ca', hv, -, p0, p1, -, -⟩ := HA.out.cells hx
        simp only [Value.slice.injEq] at hv
        obtain ⟨rfl, -, rfl⟩ := hv
        obtain ⟨g', hg', q0, q1, -, -⟩ := row_tok (l := lb) (by rw [hlen]; exact HB.out) hy
        rw [e1] at q0
        rw [e2] at q1
        subst hg'
        generalize x.kind = kk at *
        generalize x.text = tt at *
        have t1 : (kk != kk) = false := by simp
        clear hx hy e1 e2
        go_wp2
        go_quiet (fail)
        go_wp2
        exact ⟨⟨k + 1, _, by omega, by simp, rfl⟩, by simp [intOf]; omega⟩
      · have hli : decide ((k : Int) < (la.length : Int)) = false := by simp; omega
        go_wp2
        go_ret
        exact ⟨rfl, m, rfl⟩
  · obtain ⟨g6, rfl, p6, -⟩ := row_tok HB.out hy6
    rw [hk6] at p6
    rw [hlen] at HB ⊢
    have b1 : (((la.length + 1 : Nat) : Int) != (la.length : Int)) = true := by simp; omega
    clear hy6 hk6
    go_enter Tryd.func10, Tryd.ntmps10
    go_wp2
    go_loopw [7] (fun i wr => ∃ (k m : Nat), k ≤ la.length ∧ i = .int .i64 k ∧ wr = w.drewN m) (fun i _ => la.length - (intOf i).toNat)
    case atStart => exact ⟨0, 0, Nat.zero_le _, rfl, rfl⟩
    case round =>
      obtain ⟨k, m, hk, rfl, rfl⟩ := hrel
      by_cases hlt : k < la.length
      · obtain ⟨x, hx⟩ : ∃ x, la[k]? = some x := ⟨la[k], List.getElem?_eq_getElem hlt⟩
        obtain ⟨y, hy, e1, e2⟩ := HS.out k x hx
        obtain ⟨g, off, ca', hv, -, p0, p1, -, -⟩ := HA.out.cells hx
        simp only [Value.slice.injEq] at hv
        obtain ⟨rfl, -, rfl⟩ := hv
        obtain ⟨g', hg', q0, q1, -, -⟩ := row_tok (l := lb) (by rw [hlen]; exact HB.out) hy
        rw [e1] at q0
        rw [e2] at q1
        simp only [Option.some.injEq, Addr.mk.injEq] at hg'
        obtain ⟨rfl, -, -⟩ := hg'
        generalize x.kind = kk at *
        generalize x.text = tt at *
        have t1 : (kk != kk) = false := by simp
        clear hx hy e1 e2
        go_wp2
        go_quiet (fail)
        go_wp2
        exact ⟨⟨k + 1, _, by omega, by simp, rfl⟩, by simp [intOf]; omega⟩
      · have hli : decide ((k : Int) < (la.length : Int)) = false := by simp; omega
        go_wp2
        go_ret
        exact ⟨rfl, m, rfl⟩
end Go.Proofs.YtljdfaoplenloabDoor
