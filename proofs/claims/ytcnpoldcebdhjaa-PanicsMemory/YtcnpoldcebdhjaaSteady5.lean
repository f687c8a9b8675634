/- A region that draws its order: one joint fact about what has been done, the slots and memory. -/
import Derived.Test.YtcnpoldcebdhjaaSteady2
namespace Go.Proofs.Ytcnpoldcebdhjaa
open Go.RowKit
set_option linter.unusedSimpArgs false

section
variable {P : Program} {L : List Oper} {Q : Exit → Act → World → Prop} {J : (Nat → Bool) → (Nat → Value) → World → Prop} {a0 : Act}
/-- One operation: what it waits for has been done, what waits for it has not. -/
def StepOK5 (P : Program) (L : List Oper) (Q : Exit → Act → World → Prop) (J : (Nat → Bool) → (Nat → Value) → World → Prop) (a0 : Act) (i : Nat) (o : Oper) : Prop :=
  ∀ (f : Nat → Value) (d : Nat → Bool) (w : World), J d f w → d i = false → (∀ j, reachB .any L.toArray 12 i j = true → d j = true) → (∀ j, reachB .any L.toArray 12 j i = true → d j = false) → ∀ K' : Act → World → Prop, (∀ a' v w', a' = (putAll L 0 f a0).put o.dst v → J (updB d i) (upd f i v) w' → K' a' w') →
    Wanted (Region.wanted o (yielded L.toArray (putAll L 0 f a0).tmps)) (Oper.wp P o (putAll L 0 f a0) w K' Q) (K' ((putAll L 0 f a0).put o.dst undef) w)
theorem joint_any (hd : distB L = true) (ha : aftB L 0 = true)
    (hop : ∀ i o, L[i]? = some o → StepOK5 P L Q J a0 i o)
    (hend : ∀ f d w, J d f w → (∀ i, i < L.length → d i = true) → Q .normal (putAll L 0 f a0) w) :
    ∀ (fuel : Nat) (listed : Array Bool) (f : Nat → Value) (w : World), listed.size = L.length → Shutl .any L.toArray listed → (∃ S : List Nat, (∀ i, i < L.length → listed.getD i true = false → i ∈ S) ∧ S.length ≤ fuel) → J (fun j => listed.getD j false) f w →
      wpAny P .any L.toArray Q fuel listed (putAll L 0 f a0) w := by
  have hall : ∀ (listed : Array Bool), listed.size = L.length → Region.ready .any L.toArray listed = [] → ∀ i, i < L.length → listed.getD i false = true := by
    intro listed hs hr i
    induction i using Nat.strongRecOn with
    | _ i ih =>
      intro hi
      cases hb : listed.getD i false with
      | true => rfl
      | false =>
        exfalso
        have hun : listed.getD i true = false := by
          have hi' : i < listed.size := by omega
          simp [Array.getD, hi'] at hb ⊢
          exact hb
        obtain ⟨o, ho⟩ : ∃ o, L[i]? = some o := ⟨L[i], by simp [hi]⟩
        have hm : i ∈ Region.ready .any L.toArray listed := mem_ready.2 ⟨hun, o, by simpa using ho, fun e he hb => by
          have h1 := aftB_lt L 0 i o ha ho e he hb
          exact ih e.on (by omega) (by omega)⟩
        rw [hr] at hm
        cases hm
  intro fuel
  induction fuel with
  | zero =>
    intro listed f w hs hc hS hG
    obtain ⟨S, hS1, hS2⟩ := hS
    have hS0 : S = [] := List.eq_nil_of_length_eq_zero (by omega)
    have hr : Region.ready .any L.toArray listed = [] := by
      rw [List.eq_nil_iff_forall_not_mem]
      intro i hi
      obtain ⟨hun, o, ho, _⟩ := mem_ready.1 hi
      have hlt : i < L.length := by
        have := (Array.getElem?_eq_some_iff.1 ho).1
        simpa using this
      have := hS1 i hlt hun
      rw [hS0] at this
      cases this
    exact ⟨hr, hend f _ w hG (fun i hi => hall listed hs hr i hi)⟩
  | succ fuel ih =>
    intro listed f w hs hc hS hG
    refine ⟨fun hr => hend f _ w hG (fun i hi => hall listed hs hr i hi), fun i hi => ?_⟩
    obtain ⟨hun, o, ho, hafter⟩ := mem_ready.1 hi
    have hoL : L[i]? = some o := by simpa using ho
    have hlt : i < L.length := (List.getElem?_eq_some_iff.1 hoL).1
    have hnot : listed.getD i false = false := by
      have hi' : i < listed.size := by omega
      simp [Array.getD, hi'] at hun ⊢
      exact hun
    refine wpOp_step ho (fun K' hK => ?_)
    have hW := hop i o hoL f _ w hG hnot (fun j hj => ?_) (fun j hj => ?_) K' (fun a' v w' e hG' => hK a' w' ?_)
    · split
      · rename_i hb; exact hW.on hb
      · rename_i hb; exact hW.off (by simpa using hb)
    · have hjl : listed.getD j false = true := reach_listed hc 12 i j hj (fun ot hot e he hb => by rw [ho] at hot; cases hot; exact hafter e he hb)
      exact hjl
    · cases hjl : listed.getD j false with
      | false => rfl
      | true =>
        have := reach_listed hc 12 j i hj (fun ot hot e he hb => hc j ot hot hjl e he hb)
        rw [hnot] at this
        cases this
    · subst e
      rw [putAll_upd L 0 f a0 i o v hd hoL, Nat.zero_add]
      obtain ⟨S, hS1, hS2⟩ := hS
      have hfun : (fun j => (listed.setIfInBounds i true).getD j false) = updB (fun j => listed.getD j false) i := by
        funext j
        simp only [updB]
        by_cases hji : j = i
        · subst hji
          have hj' : j < listed.size := by omega
          simp [Array.getD, hj']
        · rw [if_neg hji, Go.getD_set_ne false (Ne.symm hji)]
      refine ih _ _ _ (by simpa using hs) (hc.set hi) ⟨S.erase i, fun j hj hjun => ?_, ?_⟩ (by rw [hfun]; exact hG')
      · have hji : j ≠ i := by
          rintro rfl
          have hj' : j < listed.size := by omega
          simp [Array.getD, hj'] at hjun
        rw [List.mem_erase_of_ne hji]
        exact hS1 j hj (unlisted_set hjun)
      · have := List.length_erase_of_mem (hS1 i hlt hun)
        omega
def StepsOK5 (P : Program) (L : List Oper) (Q : Exit → Act → World → Prop) (J : (Nat → Bool) → (Nat → Value) → World → Prop) (a0 : Act) : List Oper → Nat → Prop
  | [], _ => True
  | o :: r, k => StepOK5 P L Q J a0 k o ∧ StepsOK5 P L Q J a0 r (k + 1)
theorem stepsOK5_nil {k : Nat} : StepsOK5 P L Q J a0 [] k := trivial
theorem stepsOK5_cons {o : Oper} {r : List Oper} {k : Nat} (h : ∀ (f : Nat → Value) (d : Nat → Bool) (w : World), J d f w → d k = false → (∀ j, reachB .any L.toArray 12 k j = true → d j = true) → (∀ j, reachB .any L.toArray 12 j k = true → d j = false) → ∀ K' : Act → World → Prop, (∀ a' v w', a' = (putAll L 0 f a0).put o.dst v → J (updB d k) (upd f k v) w' → K' a' w') →
    Wanted (Region.wanted o (yielded L.toArray (putAll L 0 f a0).tmps)) (Oper.wp P o (putAll L 0 f a0) w K' Q) (K' ((putAll L 0 f a0).put o.dst undef) w)) (hr : StepsOK5 P L Q J a0 r (k + 1)) : StepsOK5 P L Q J a0 (o :: r) k := ⟨h, hr⟩
theorem stepsOK5_at : ∀ (r : List Oper) (k i : Nat) (o : Oper), StepsOK5 P L Q J a0 r k → r[i]? = some o → StepOK5 P L Q J a0 (k + i) o
  | [], _, _, _, _, h => by simp at h
  | p :: r, k, 0, o, hs, h => by
    simp at h
    subst h
    exact hs.1
  | p :: r, k, i + 1, o, hs, h => by
    have := stepsOK5_at r (k + 1) i o hs.2 (by simpa using h)
    rwa [show k + 1 + i = k + (i + 1) by omega] at this
/-- The law, with one joint fact. -/
theorem wp_joint {id : Nat} {w : World} (J : (Nat → Bool) → (Nat → Value) → World → Prop) (hm : P.follows .mixedOrders = true)
    (hd : distB L = true) (ha : aftB L 0 = true) (hJ : ∀ f, J (fun _ => false) f w.drew)
    (hop : StepsOK5 P L Q J a0 L 0)
    (hend : ∀ f d w, J d f w → (∀ i, i < L.length → d i = true) → Q .normal (putAll L 0 f a0) w) :
    (Code.region id L.toArray true).wp P Q a0 w := by
  refine wp_region_any hm ?_
  let f0 : Nat → Value := fun i => match L[i]? with | some o => (match o.dst with | some t => a0.tmps.getD t undef | none => undef) | none => undef
  have h0 := putAll_self L 0 f0 a0 (fun i o t ho hd => by simp [f0, ho, hd])
  have := joint_any (P := P) (L := L) (Q := Q) (J := J) (a0 := a0) hd ha (fun i o ho => by have := stepsOK5_at L 0 i o hop ho; rwa [Nat.zero_add] at this) hend L.length (Array.replicate L.length false) f0 w.drew (by simp) (shutl_none _) ⟨List.range L.length, fun i hi _ => List.mem_range.2 hi, by simp⟩ (by
    have e : (fun j => (Array.replicate L.length false).getD j false) = fun _ => false := by funext j; simp [Array.getD]
    rw [e]; exact hJ f0)
  rw [h0] at this
  simpa using this
end
/-- The joint fact of most regions: memory has grown from w; each slot that is done, and not spent yet, bears what it should; and what is said of the slots besides. 99: never. -/
structure JF (l : List (Value → World → Prop)) (sp : Nat → Nat) (X : (Nat → Bool) → (Nat → Value) → World → Prop) (w : World) (d : Nat → Bool) (f : Nat → Value) (u : World) : Prop where
  up : Below w.heap.size w u
  none : d 99 = false
  slots : ∀ i, d i = true → d (sp i) = false → atR l i (f i) u
  more : X d f u
section
variable {l : List (Value → World → Prop)} {sp : Nat → Nat} {X : (Nat → Bool) → (Nat → Value) → World → Prop} {w : World} {d : Nat → Bool} {f : Nat → Value} {u u' : World}
theorem JF.step (h : JF l sp X w d f u) {i : Nat} {v : Value} (hi : i ≠ 99) (hb : Below w.heap.size w u') (hs : ∀ j, j ≠ i → sp j ≠ i → d j = true → d (sp j) = false → atR l j (f j) u → atR l j (f j) u') (hv : atR l i v u') (hX : X (updB d i) (upd f i v) u') : JF l sp X w (updB d i) (upd f i v) u' := by
  refine ⟨hb, by simp only [updB]; rw [if_neg (Ne.symm hi)]; exact h.none, fun j hj hp => ?_, hX⟩
  by_cases hji : j = i
  · subst hji; simp only [upd, if_true]; exact hv
  · simp only [upd, if_neg hji]
    simp only [updB, if_neg hji] at hj
    by_cases hpi : sp j = i
    · simp [updB, hpi] at hp
    · simp only [updB, if_neg hpi] at hp
      exact hs j hji hpi hj hp (h.slots j hj hp)
theorem JF.grow (hl : AllStab l) (h : JF l sp X w d f u) {i : Nat} {v : Value} (hi : i ≠ 99) (hb : Below u.heap.size u u') (hv : atR l i v u') (hX : X (updB d i) (upd f i v) u') : JF l sp X w (updB d i) (upd f i v) u' :=
  h.step hi (h.up.trans (hb.mono h.up.size)) (fun j _ _ _ _ h2 => atR_stab hl j _ _ _ hb h2) hv hX
/-- What a slot holds that is not spent. -/
theorem JF.at (h : JF l sp X w d f u) (i : Nat) (hd : d i = true) (hs : d (sp i) = false) : atR l i (f i) u := h.slots i hd hs
end
end Go.Proofs.Ytcnpoldcebdhjaa
