/- A region that draws its order: loads at its head, which all that writes waits for, are walked once. -/
import Derived.StillTailTactics
import Derived.OrdersHeld
import Derived.WalkKit
namespace Go.Proofs.Ytcnpoldcebdhjaa

section
variable {P : Program} {ops : Array Oper} {Q : Exit → Act → World → Prop} {md : Region.Mode} {S : World → Prop} {T : Nat → Bool}

/-- In whatever order; behind what is not of the tail T the world meets S. -/
def wpAnyT (P : Program) (md : Region.Mode) (ops : Array Oper) (Q : Exit → Act → World → Prop) (S : World → Prop) (T : Nat → Bool) : Nat → Array Bool → Act → World → Prop
  | 0, listed, a, w => Region.ready md ops listed = [] ∧ Q .normal a w
  | f + 1, listed, a, w => (Region.ready md ops listed = [] → Q .normal a w) ∧
    ∀ i ∈ Region.ready md ops listed, wpOp P ops Q i (fun a' w' => (T i = false → S w') ∧ wpAnyT P md ops Q S T f (listed.setIfInBounds i true) a' w') a w
theorem any_of_T : ∀ (f : Nat) (listed : Array Bool) (a : Act) (w : World), wpAnyT P md ops Q S T f listed a w → wpAny P md ops Q f listed a w
  | 0, _, _, _, h => h
  | f + 1, _, _, _, h => ⟨h.1, fun i hi => wpOp_mono (fun a' w' h' => any_of_T f _ a' w' h'.2) (h.2 i hi)⟩
theorem unlisted_set {listed : Array Bool} {i j : Nat} (h : (listed.setIfInBounds i true).getD j true = false) : listed.getD j true = false := by
  by_cases hij : i = j
  · subst hij
    rcases Nat.lt_or_ge i listed.size with h' | h'
    · simp [h'] at h
    · simp [h'] at h
  · rw [Go.getD_set_ne true hij] at h; exact h
/-- What is left is of the tail. -/
def OnlyTail (ops : Array Oper) (T : Nat → Bool) (listed : Array Bool) : Prop := ∀ i oi, ops[i]? = some oi → listed.getD i true = false → T i = true
theorem ready_tail {listed : Array Bool} (hT : OnlyTail ops T listed) {i : Nat} (hi : i ∈ Region.ready md ops listed) (h0 : T i = false) : False := by
  obtain ⟨hun, oi, hoi, _⟩ := mem_ready.1 hi
  rw [hT i oi hoi hun] at h0; cases h0
theorem T_of_any : ∀ (f : Nat) (listed : Array Bool) (a : Act) (w : World), OnlyTail ops T listed → wpAny P md ops Q f listed a w → wpAnyT P md ops Q S T f listed a w
  | 0, _, _, _, _, h => h
  | f + 1, _, _, _, hT, h => ⟨h.1, fun i hi => wpOp_mono (fun a' w' h' => ⟨fun h0 => (ready_tail hT hi h0).elim, T_of_any f _ a' w' (fun j oj hj hun => hT j oj hj (unlisted_set hun)) h'⟩) (h.2 i hi)⟩

/-- Whatever is listed, what it waits for is listed. -/
def Shutl (md : Region.Mode) (ops : Array Oper) (listed : Array Bool) : Prop := ∀ j oj, ops[j]? = some oj → listed.getD j false = true → ∀ e ∈ oj.after, Region.binds md e = true → listed.getD e.on false = true
theorem Shutl.set {listed : Array Bool} (h : Shutl md ops listed) {i : Nat} (hi : i ∈ Region.ready md ops listed) : Shutl md ops (listed.setIfInBounds i true) := by
  obtain ⟨_, oi, hoi, hall⟩ := mem_ready.1 hi
  intro j oj hj hl e he hb
  by_cases hij : i = j
  · subst hij
    rw [hoi] at hj; cases hj
    exact getD_set_true (hall e he hb)
  · rw [Go.getD_set_ne false hij] at hl
    exact getD_set_true (h j oj hj hl e he hb)
theorem shutl_none (m : Nat) : Shutl md ops (Array.replicate m false) := fun j _ _ hl => by
  rw [getD_replicate_false] at hl; cases hl
/-- t waits for i, by others. -/
def reachB (md : Region.Mode) (ops : Array Oper) : Nat → Nat → Nat → Bool
  | 0, _, _ => false
  | f + 1, t, i => (List.range ops.size).any fun m => Region.waitsFor md ops t m && (m == i || reachB md ops f m i)
theorem reach_listed {listed : Array Bool} (h : Shutl md ops listed) : ∀ (f t i : Nat), reachB md ops f t i = true → (∀ ot, ops[t]? = some ot → ∀ e ∈ ot.after, Region.binds md e = true → listed.getD e.on false = true) → listed.getD i false = true
  | 0, _, _, hr, _ => by cases hr
  | f + 1, t, i, hr, ht => by
    obtain ⟨m, _, hm⟩ := List.any_eq_true.1 hr
    simp only [Bool.and_eq_true, Bool.or_eq_true, beq_iff_eq] at hm
    obtain ⟨ot, hot, e, he, hb, hon⟩ := Region.waitsFor_spec hm.1
    have hl : listed.getD m false = true := by rw [← hon]; exact ht ot hot e he hb
    rcases hm.2 with rfl | h2
    · exact hl
    · exact reach_listed h f m i h2 (fun om hom e he hb => h m om hom hl e he hb)

theorem T_first {i : Nat} {oi : Oper} {v : Value} (hi : ops[i]? = some oi) (hsel : ∀ (j : Nat) (o : Oper) cs b, ops[j]? = some o → o.op ≠ .select cs b)
    (hQ : ∀ c a w, Q (.panic c) (a.put oi.dst v) w → Q (.panic c) a w) {n : Nat} (hblk : ∀ t ot, ops[t]? = some ot → T t = true → t = n ∨ reachB md ops 3 t n = true) (hni : reachB md ops 5 n i = true) :
    ∀ (fuel : Nat) (listed : Array Bool) (a : Act) (w : World), Shutl md ops listed →
      (∀ j oj, ops[j]? = some oj → j ≠ i → listed.getD j true = false → (∀ e ∈ oj.after, Region.binds md e = true → e.on ≠ i) → oi.apart ops oj = true) →
      i ∈ Region.ready md ops listed → YieldsIf P ops S oi v a → S w →
      wpAnyT P md ops Q S T fuel (listed.setIfInBounds i true) (a.put oi.dst v) w → wpAnyT P md ops Q S T (fuel + 1) listed a w
  | fuel, listed, a, w, hcl, hfree, hr, hy, hS, H => by
    have hiun := (mem_ready.1 hr).1
    refine ⟨fun h => (by rw [h] at hr; cases hr), fun j hj => ?_⟩
    by_cases hji : j = i
    · subst hji; exact hy.wpOp hi hS ⟨fun _ => hS, H⟩
    obtain ⟨hjun, oj, hoj, hall⟩ := mem_ready.1 hj
    have hjT : T j = false := by
      cases hT : T j with
      | false => rfl
      | true =>
        have hd : ∀ ot, ops[j]? = some ot → ∀ e ∈ ot.after, Region.binds md e = true → listed.getD e.on false = true := fun ot hot e he hb => by rw [hoj] at hot; cases hot; exact hall e he hb
        have h1 : listed.getD i false = true := by
          rcases hblk j oj hoj hT with rfl | h
          · exact reach_listed hcl 5 _ i hni hd
          · have hn := reach_listed hcl 3 j n h hd
            exact reach_listed hcl 5 n i hni (fun on hon e he hb => hcl n on hon hn e he hb)
        rw [getD_both hiun] at h1; cases h1
    cases fuel with
    | zero =>
      have h1 := ready_mono hj hji
      rw [H.1] at h1; cases h1
    | succ fuel =>
      have h1 := H.2 j (ready_mono hj hji)
      have hnot : ∀ e ∈ oj.after, Region.binds md e = true → e.on ≠ i := fun e he hb heq => by
        have h2 := hall e he hb
        rw [heq, getD_both hiun] at h2; cases h2
      have h2 := wpOp_putIf hoj (hfree j oj hoj hji hjun hnot) (fun cs b => hsel i oi cs b hi) (fun cs b => hsel j oj cs b hoj) hQ hy h1
      refine wpOp_mono (fun a' w' h3 => ⟨fun _ => h3.2.1 hjT, T_first hi hsel hQ hblk hni fuel (listed.setIfInBounds j true) a' w' (hcl.set hj) (fun k ok hk hki hun hno => hfree k ok hk hki (unlisted_set hun) hno) (ready_mono hr (Ne.symm hji)) h3.1 (h3.2.1 hjT) ?_⟩) h2
      rw [Array.setIfInBounds_comm _ _ hji]
      exact h3.2.2
  termination_by fuel => fuel

/-- So many from k on are listed. -/
def listN : Nat → Nat → Array Bool → Array Bool
  | _, 0, listed => listed
  | k, f + 1, listed => listN (k + 1) f (listed.setIfInBounds k true)
/-- The head may be walked in the text's order. -/
def lexT (md : Region.Mode) (ops : Array Oper) (n : Nat) (T : Nat → Bool) : Nat → Nat → Array Bool → Bool
  | 0, _, listed => ((List.range ops.size).all fun j => listed.getD j true || T j)
  | f + 1, k, listed => (Region.ready md ops listed).contains k && Region.free md ops listed k && reachB md ops 5 n k && lexT md ops n T f (k + 1) (listed.setIfInBounds k true)
/-- Each yields its value in this world. -/
def wpVal (P : Program) (ops : Array Oper) (w : World) (Lq : Act → Prop) : List Oper → Act → Prop
  | [], a => Lq a
  | o :: rest, a => Region.wanted o (yielded ops a.tmps) = true ∧ ∃ v, (execOp a.eval o).run P w = .ok (.value v) w ∧ wpVal P ops w Lq rest (a.put o.dst v)
theorem wpVal_step {w : World} {Lq : Act → Prop} {o : Oper} {rest : List Oper} {a : Act} (v : Value) (hw : Region.wanted o (yielded ops a.tmps) = true) (hv : (execOp a.eval o).run P w = .ok (.value v) w) (h : wpVal P ops w Lq rest (a.put o.dst v)) : wpVal P ops w Lq (o :: rest) a := ⟨hw, v, hv, h⟩
theorem wpVal_nil {w : World} {Lq : Act → Prop} {a : Act} (h : Lq a) : wpVal P ops w Lq [] a := h
theorem T_lex {w : World} {g n : Nat} {Lq : Act → Prop} (hs : Region.noSelect ops = true) (hQ : ∀ c (a : Act) (d : Option Tmp) (v : Value) w, Q (.panic c) (a.put d v) w → Q (.panic c) a w) (hblk : ∀ t ot, ops[t]? = some ot → T t = true → t = n ∨ reachB md ops 3 t n = true) :
    ∀ (l : List Oper) (k : Nat) (listed : Array Bool) (a : Act), (∀ j, j < l.length → l[j]? = ops[k + j]?) → Shutl md ops listed → lexT md ops n T l.length k listed = true →
      (∀ a', Lq a' → wpAny P md ops Q g (listN k l.length listed) a' w) → wpVal P ops w Lq l a → wpAnyT P md ops Q (fun w' => w' = w) T (l.length + g) listed a w
  | [], k, listed, a, _, _, hB, hg, h => by
    rw [List.length_nil, Nat.zero_add]
    refine T_of_any g listed a w (fun i oi hoi hun => ?_) (hg a h)
    have hi := (Array.getElem?_eq_some_iff.1 hoi).1
    have h1 := List.all_eq_true.1 (show ((List.range ops.size).all fun j => listed.getD j true || T j) = true from hB) i (List.mem_range.2 hi)
    rw [hun] at h1
    simpa using h1
  | o :: l, k, listed, a, hl, hc, hB, hg, h => by
    have h0 : ops[k]? = some o := by simpa using (hl 0 (by simp)).symm
    simp only [List.length_cons, lexT, Bool.and_eq_true] at hB
    obtain ⟨⟨⟨hr, hf⟩, hb⟩, hB'⟩ := hB
    have hr' : k ∈ Region.ready md ops listed := by simpa using hr
    obtain ⟨hw, v, hv, hK⟩ := h
    rw [List.length_cons, show l.length + 1 + g = (l.length + g) + 1 by omega]
    exact T_first h0 (Region.noSelect_spec hs) (fun c a w h => hQ c _ _ _ w h) hblk hb (l.length + g) listed a w hc (Region.free_spec h0 hf) hr' (.inl ⟨hw, fun w' e => by subst e; exact hv⟩) rfl
      (T_lex hs hQ hblk l (k + 1) _ _ (fun j hj => by have := hl (j + 1) (by simp; omega); simpa [Nat.add_assoc, Nat.add_comm 1 j] using this) (hc.set hr') hB' hg hK)
end

/-- The head of a region, m operations from k on, in the text's order; the tail is what lies from k + m on. -/
theorem wpAny_head {P : Program} {L : List Oper} {Q : Exit → Act → World → Prop} (k m g : Nat) {listed : Array Bool} {a : Act} {w : World} (hs : Region.noSelect L.toArray = true) (hc : Shutl .any L.toArray listed)
    (hQ : ∀ c (a : Act) (d : Option Tmp) (v : Value) w, Q (.panic c) (a.put d v) w → Q (.panic c) a w) (hm : decide (k + m ≤ L.length) = true) (hT : ((List.range L.toArray.size).all fun t => decide (t ≤ k + m) || reachB .any L.toArray 3 t (k + m)) = true) (hB : lexT .any L.toArray (k + m) (fun t => decide (k + m ≤ t)) m k listed = true)
    (h : wpVal P L.toArray w (fun a' => wpAny P .any L.toArray Q g (listN k m listed) a' w) ((L.drop k).take m) a) : wpAny P .any L.toArray Q (m + g) listed a w := by
  have hm' : k + m ≤ L.length := by simpa using hm
  have hlen : ((L.drop k).take m).length = m := by rw [List.length_take, List.length_drop]; omega
  have := T_lex (P := P) (md := .any) (T := fun t => decide (k + m ≤ t)) (w := w) (g := g) (n := k + m) (Lq := fun a' => wpAny P .any L.toArray Q g (listN k m listed) a' w) hs hQ (fun t ot hot ht => by
      have h1 := List.all_eq_true.1 hT t (List.mem_range.2 (Array.getElem?_eq_some_iff.1 hot).1)
      simp only [Bool.or_eq_true, decide_eq_true_eq] at h1 ht
      rcases h1 with h1 | h1
      · exact .inl (by omega)
      · exact .inr h1) ((L.drop k).take m) k listed a
    (fun j hj => by rw [hlen] at hj; rw [List.getElem?_take, if_pos hj, List.getElem?_drop]; simp) hc (by rw [hlen]; exact hB) (fun a' h' => by rw [hlen]; exact h') h
  rw [hlen] at this
  exact any_of_T _ _ _ _ this
section
variable {P : Program} {ops : Array Oper} {Q : Exit → Act → World → Prop} {md : Region.Mode} {S : World → Prop} {T : Nat → Bool}
/-- Each yields its value in every world that meets S. -/
def wpValS (P : Program) (ops : Array Oper) (S : World → Prop) (Lq : Act → Prop) : List Oper → Act → Prop
  | [], a => Lq a
  | o :: rest, a => Region.wanted o (yielded ops a.tmps) = true ∧ ∃ v, (∀ w, S w → (execOp a.eval o).run P w = .ok (.value v) w) ∧ wpValS P ops S Lq rest (a.put o.dst v)
theorem wpValS_step {Lq : Act → Prop} {o : Oper} {rest : List Oper} {a : Act} (v : Value) (hw : Region.wanted o (yielded ops a.tmps) = true) (hv : ∀ w, S w → (execOp a.eval o).run P w = .ok (.value v) w) (h : wpValS P ops S Lq rest (a.put o.dst v)) : wpValS P ops S Lq (o :: rest) a := ⟨hw, v, hv, h⟩
theorem wpValS_nil {Lq : Act → Prop} {a : Act} (h : Lq a) : wpValS P ops S Lq [] a := h
def lexS (md : Region.Mode) (ops : Array Oper) (n : Nat) : Nat → Nat → Array Bool → Bool
  | 0, _, _ => true
  | f + 1, k, listed => (Region.ready md ops listed).contains k && Region.free md ops listed k && reachB md ops 7 n k && lexS md ops n f (k + 1) (listed.setIfInBounds k true)
theorem S_first {i n : Nat} {oi : Oper} {v : Value} (hi : ops[i]? = some oi) (hsel : ∀ (j : Nat) (o : Oper) cs b, ops[j]? = some o → o.op ≠ .select cs b)
    (hQ : ∀ c a w, Q (.panic c) (a.put oi.dst v) w → Q (.panic c) a w) (hblk : ∀ t ot, ops[t]? = some ot → T t = true → t = n ∨ reachB md ops 3 t n = true) (hni : reachB md ops 7 n i = true) :
    ∀ (fuel : Nat) (listed : Array Bool) (a : Act) (w : World), Shutl md ops listed →
      (∀ j oj, ops[j]? = some oj → j ≠ i → listed.getD j true = false → (∀ e ∈ oj.after, Region.binds md e = true → e.on ≠ i) → oi.apart ops oj = true) →
      i ∈ Region.ready md ops listed → YieldsIf P ops S oi v a → S w →
      wpAnyT P md ops Q S T fuel (listed.setIfInBounds i true) (a.put oi.dst v) w → wpAnyT P md ops Q S T (fuel + 1) listed a w
  | fuel, listed, a, w, hcl, hfree, hr, hy, hS, H => by
    have hiun := (mem_ready.1 hr).1
    refine ⟨fun h => (by rw [h] at hr; cases hr), fun j hj => ?_⟩
    by_cases hji : j = i
    · subst hji; exact hy.wpOp hi hS ⟨fun _ => hS, H⟩
    obtain ⟨hjun, oj, hoj, hall⟩ := mem_ready.1 hj
    have hjT : T j = false := by
      cases hT : T j with
      | false => rfl
      | true =>
        have hd : ∀ ot, ops[j]? = some ot → ∀ e ∈ ot.after, Region.binds md e = true → listed.getD e.on false = true := fun ot hot e he hb => by rw [hoj] at hot; cases hot; exact hall e he hb
        have h1 : listed.getD i false = true := by
          rcases hblk j oj hoj hT with rfl | h
          · exact reach_listed hcl 7 _ i hni hd
          · have hn := reach_listed hcl 3 j n h hd
            exact reach_listed hcl 7 n i hni (fun on hon e he hb => hcl n on hon hn e he hb)
        rw [getD_both hiun] at h1; cases h1
    cases fuel with
    | zero =>
      have h1 := ready_mono hj hji
      rw [H.1] at h1; cases h1
    | succ fuel =>
      have h1 := H.2 j (ready_mono hj hji)
      have hnot : ∀ e ∈ oj.after, Region.binds md e = true → e.on ≠ i := fun e he hb heq => by
        have h2 := hall e he hb
        rw [heq, getD_both hiun] at h2; cases h2
      have h2 := wpOp_putIf hoj (hfree j oj hoj hji hjun hnot) (fun cs b => hsel i oi cs b hi) (fun cs b => hsel j oj cs b hoj) hQ hy h1
      refine wpOp_mono (fun a' w' h3 => ⟨fun _ => h3.2.1 hjT, S_first hi hsel hQ hblk hni fuel (listed.setIfInBounds j true) a' w' (hcl.set hj) (fun k ok hk hki hun hno => hfree k ok hk hki (unlisted_set hun) hno) (ready_mono hr (Ne.symm hji)) h3.1 (h3.2.1 hjT) ?_⟩) h2
      rw [Array.setIfInBounds_comm _ _ hji]
      exact h3.2.2
  termination_by fuel => fuel
theorem S_lex {g n : Nat} {w : World} (hS : S w) (hs : Region.noSelect ops = true) (hQ : ∀ c (a : Act) (d : Option Tmp) (v : Value) w, Q (.panic c) (a.put d v) w → Q (.panic c) a w) (hblk : ∀ t ot, ops[t]? = some ot → T t = true → t = n ∨ reachB md ops 3 t n = true) :
    ∀ (l : List Oper) (k : Nat) (listed : Array Bool) (a : Act), (∀ j, j < l.length → l[j]? = ops[k + j]?) → Shutl md ops listed → lexS md ops n l.length k listed = true →
      wpValS P ops S (fun a' => wpAnyT P md ops Q S T g (listN k l.length listed) a' w) l a → wpAnyT P md ops Q S T (l.length + g) listed a w
  | [], k, listed, a, _, _, _, h => by
    rw [List.length_nil, Nat.zero_add]; exact h
  | o :: l, k, listed, a, hl, hc, hB, h => by
    have h0 : ops[k]? = some o := by simpa using (hl 0 (by simp)).symm
    simp only [List.length_cons, lexS, Bool.and_eq_true] at hB
    obtain ⟨⟨⟨hr, hf⟩, hb⟩, hB'⟩ := hB
    have hr' : k ∈ Region.ready md ops listed := by simpa using hr
    obtain ⟨hw, v, hv, hK⟩ := h
    rw [List.length_cons, show l.length + 1 + g = (l.length + g) + 1 by omega]
    exact S_first h0 (Region.noSelect_spec hs) (fun c a w h => hQ c _ _ _ w h) hblk hb (l.length + g) listed a w hc (Region.free_spec h0 hf) hr' (.inl ⟨hw, hv⟩) hS
      (S_lex hS hs hQ hblk l (k + 1) _ _ (fun j hj => by have := hl (j + 1) (by simp; omega); simpa [Nat.add_assoc, Nat.add_comm 1 j] using this) (hc.set hr') hB' hK)
/-- One alone may come up. -/
theorem T_one {i : Nat} {o : Oper} {f : Nat} {listed : Array Bool} {a : Act} {w : World} (ho : ops[i]? = some o) (hr : Region.ready md ops listed = [i])
    (h : ∀ K' : Act → World → Prop, (∀ a w, (T i = false → S w) → wpAnyT P md ops Q S T f (listed.setIfInBounds i true) a w → K' a w) → if Region.wanted o (yielded ops a.tmps) = true then Oper.wp P o a w K' Q else K' (a.put o.dst undef) w) : wpAnyT P md ops Q S T (f + 1) listed a w := by
  refine ⟨fun h0 => (by rw [hr] at h0; cases h0), fun j hj => ?_⟩
  rw [hr] at hj
  have hji : j = i := by simpa using hj
  subst hji
  exact wpOp_step ho (fun K' hK => h K' (fun a w h1 h2 => hK a w ⟨h1, h2⟩))
end
/-- The head of a region, m operations from k on, in the text's order, each in every world that meets S; what lies from tl on is the tail. -/
theorem wpAny_headS {P : Program} {L : List Oper} {Q : Exit → Act → World → Prop} (S : World → Prop) (k m tl g : Nat) {listed : Array Bool} {a : Act} {w : World} (hS : S w) (hs : Region.noSelect L.toArray = true) (hc : Shutl .any L.toArray listed)
    (hQ : ∀ c (a : Act) (d : Option Tmp) (v : Value) w, Q (.panic c) (a.put d v) w → Q (.panic c) a w) (hm : decide (k + m ≤ L.length) = true) (hT : ((List.range L.toArray.size).all fun t => decide (t ≤ tl) || reachB .any L.toArray 3 t tl) = true) (hB : lexS .any L.toArray tl m k listed = true)
    (h : wpValS P L.toArray S (fun a' => wpAnyT P .any L.toArray Q S (fun t => decide (tl ≤ t)) g (listN k m listed) a' w) ((L.drop k).take m) a) : wpAny P .any L.toArray Q (m + g) listed a w := by
  have hm' : k + m ≤ L.length := by simpa using hm
  have hlen : ((L.drop k).take m).length = m := by rw [List.length_take, List.length_drop]; omega
  have := S_lex (P := P) (md := .any) (T := fun t => decide (tl ≤ t)) (w := w) (g := g) (n := tl) hS hs hQ (fun t ot hot ht => by
      have h1 := List.all_eq_true.1 hT t (List.mem_range.2 (Array.getElem?_eq_some_iff.1 hot).1)
      simp only [Bool.or_eq_true, decide_eq_true_eq] at h1 ht
      rcases h1 with h1 | h1
      · exact .inl (by omega)
      · exact .inr h1) ((L.drop k).take m) k listed a
    (fun j hj => by rw [hlen] at hj; rw [List.getElem?_take, if_pos hj, List.getElem?_drop]; simp) hc (by rw [hlen]; exact hB) (by rw [hlen]; exact h)
  rw [hlen] at this
  exact any_of_T _ _ _ _ this
theorem tail_of {P : Program} {ops : Array Oper} {Q : Exit → Act → World → Prop} {S : World → Prop} {tl f : Nat} {listed : Array Bool} {a : Act} {w : World} (hB : ((List.range ops.size).all fun j => listed.getD j true || decide (tl ≤ j)) = true) (h : wpAny P .any ops Q f listed a w) : wpAnyT P .any ops Q S (fun t => decide (tl ≤ t)) f listed a w :=
  T_of_any f listed a w (fun i oi hoi hun => by
    have h1 := List.all_eq_true.1 hB i (List.mem_range.2 (Array.getElem?_eq_some_iff.1 hoi).1)
    rw [hun] at h1
    simpa using h1) h
theorem shutl_one {md : Region.Mode} {ops : Array Oper} {m : Nat} (h : (Region.ready md ops (Array.replicate m false)).contains 0 = true) : Shutl md ops ((Array.replicate m false).setIfInBounds 0 true) :=
  (shutl_none m).set (by simpa using h)
end Go.Proofs.Ytcnpoldcebdhjaa
