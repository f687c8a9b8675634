/- A region that draws its order, whose operations keep what the others leave: one walk for each operation, whatever the order. -/
import Derived.Test.YtcnpoldcebdhjaaHeadlaw
import Derived.Below
namespace Go.Proofs.Ytcnpoldcebdhjaa
open Go.RowKit
set_option linter.unusedSimpArgs false

/-- What a region's operations leave, each in its slot. -/
def putAll : List Oper → Nat → (Nat → Value) → Act → Act
  | [], _, _, a => a
  | o :: r, k, f, a => putAll r (k + 1) f (a.put o.dst (f k))
/-- No two write the same slot. -/
def distB : List Oper → Bool
  | [] => true
  | o :: r => (r.all fun p => o.dst.isNone || (o.dst != p.dst)) && distB r
/-- Each waits for earlier ones alone. -/
def aftB : List Oper → Nat → Bool
  | [], _ => true
  | o :: r, k => (o.after.all fun e => !Region.binds .any e || decide (e.on < k)) && aftB r (k + 1)
def upd (f : Nat → Value) (i : Nat) (v : Value) : Nat → Value := fun j => if j = i then v else f j
theorem put_comm (a : Act) {d d' : Option Tmp} (h : d.isNone = true ∨ d ≠ d') (x y : Value) : (a.put d x).put d' y = (a.put d' y).put d x := by
  cases d with
  | none => cases d' <;> rfl
  | some t =>
    cases d' with
    | none => rfl
    | some t' =>
      have hne : t ≠ t' := by
        rcases h with h | h
        · cases h
        · intro e; exact h (by rw [e])
      simp only [Act.put]
      rw [Array.setIfInBounds_comm _ _ hne]
theorem put_put (a : Act) (d : Option Tmp) (x y : Value) : (a.put d x).put d y = a.put d y := by
  cases d with
  | none => rfl
  | some t =>
    simp only [Act.put]
    congr 1
    rw [Array.setIfInBounds_setIfInBounds]
theorem putAll_put : ∀ (r : List Oper) (k : Nat) (f : Nat → Value) (a : Act) (d : Option Tmp) (v : Value), (r.all fun p => d.isNone || (d != p.dst)) = true → (putAll r k f a).put d v = putAll r k f (a.put d v)
  | [], _, _, _, _, _, _ => rfl
  | o :: r, k, f, a, d, v, h => by
    simp only [List.all_cons, Bool.and_eq_true, Bool.or_eq_true, bne_iff_ne] at h
    simp only [putAll]
    rw [putAll_put r (k + 1) f _ d v h.2]
    congr 1
    by_cases hd : d = o.dst
    · rcases h.1 with h1 | h1
      · rw [← hd]; cases d with
        | none => rfl
        | some t => cases h1
      · exact absurd hd h1
    · rw [put_comm a (d := d) (d' := o.dst) (.inr hd)]
theorem putAll_congr : ∀ (r : List Oper) (k : Nat) (f g : Nat → Value) (a : Act), (∀ i, k ≤ i → f i = g i) → putAll r k f a = putAll r k g a
  | [], _, _, _, _, _ => rfl
  | o :: r, k, f, g, a, h => by
    simp only [putAll]
    rw [h k (Nat.le_refl _)]
    exact putAll_congr r (k + 1) f g _ (fun i hi => h i (by omega))
theorem putAll_upd : ∀ (L : List Oper) (k : Nat) (f : Nat → Value) (a : Act) (i : Nat) (o : Oper) (v : Value), distB L = true → L[i]? = some o → (putAll L k f a).put o.dst v = putAll L k (upd f (k + i) v) a
  | [], _, _, _, _, _, _, _, h => by simp at h
  | p :: r, k, f, a, 0, o, v, hd, h => by
    simp at h
    subst h
    simp only [distB, Bool.and_eq_true] at hd
    simp only [putAll]
    rw [putAll_put r (k + 1) f _ p.dst v hd.1, put_put, putAll_congr r (k + 1) f (upd f (k + 0) v) _ (fun i hi => by simp only [upd]; rw [if_neg (by omega)])]
    simp [upd]
  | p :: r, k, f, a, i + 1, o, v, hd, h => by
    simp only [distB, Bool.and_eq_true] at hd
    simp only [putAll]
    rw [putAll_upd r (k + 1) f _ i o v hd.2 (by simpa using h), show k + 1 + i = k + (i + 1) by omega]
    congr 2
    simp only [upd]
    rw [if_neg (by omega)]
theorem putAll_self : ∀ (L : List Oper) (k : Nat) (f : Nat → Value) (a : Act), (∀ i o t, L[i]? = some o → o.dst = some t → f (k + i) = a.tmps.getD t undef) → putAll L k f a = a
  | [], _, _, _, _ => rfl
  | o :: r, k, f, a, h => by
    have e : a.put o.dst (f k) = a := by
      cases hd : o.dst with
      | none => rfl
      | some t =>
        have h0 := h 0 o t rfl hd
        rw [Nat.add_zero] at h0
        rw [h0]
        cases a with
        | mk tm df =>
          simp only [Act.put]
          congr 1
          apply Array.ext_getElem?
          intro i
          rw [Array.getElem?_setIfInBounds]
          split
          · rename_i e
            subst e
            split
            · rename_i h2
              simp [Array.getD, h2]
            · rename_i h2
              simp [h2]
          · rfl
    simp only [putAll]
    rw [e]
    exact putAll_self r (k + 1) f a (fun i o' t hi hd => by rw [show k + 1 + i = k + (i + 1) by omega]; exact h (i + 1) o' t (by simpa using hi) hd)
theorem aftB_lt : ∀ (L : List Oper) (k i : Nat) (o : Oper), aftB L k = true → L[i]? = some o → ∀ e ∈ o.after, Region.binds .any e = true → e.on < k + i
  | [], _, _, _, _, h => by simp at h
  | p :: r, k, 0, o, ha, h => by
    simp at h
    subst h
    simp only [aftB, Bool.and_eq_true, Array.all_eq_true'] at ha
    intro e he hb
    have := ha.1 e he
    simpa [hb] using this
  | p :: r, k, i + 1, o, ha, h => by
    simp only [aftB, Bool.and_eq_true] at ha
    intro e he hb
    have := aftB_lt r (k + 1) i o ha.2 (by simpa using h) e he hb
    omega

/-- Done where it is wanted, passed over where not. -/
structure Wanted (b : Bool) (p q : Prop) : Prop where
  on : b = true → p
  off : b = false → q
theorem wanted_on {b : Bool} {p q : Prop} (hb : b = true) (h : p) : Wanted b p q := ⟨fun _ => h, fun h0 => by rw [hb] at h0; cases h0⟩
theorem wanted_off {b : Bool} {p q : Prop} (hb : b = false) (h : q) : Wanted b p q := ⟨fun h0 => (by rw [hb] at h0; cases h0), fun _ => h⟩
section
variable {P : Program} {L : List Oper} {Q : Exit → Act → World → Prop} {G : World → Prop} {R : Nat → Value → World → Prop} {St : World → World → Prop} {a0 : Act}
/-- One operation, in whatever order it comes up: what it waits for has been done. -/
def StepOK (P : Program) (L : List Oper) (Q : Exit → Act → World → Prop) (G : World → Prop) (R : Nat → Value → World → Prop) (St : World → World → Prop) (a0 : Act) (i : Nat) (o : Oper) : Prop :=
  ∀ (f : Nat → Value) (w : World), G w → (∀ j, reachB .any L.toArray 12 i j = true → R j (f j) w) → ∀ K' : Act → World → Prop, (∀ a' v w', a' = (putAll L 0 f a0).put o.dst v → G w' → St w w' → R i v w' → K' a' w') →
    Wanted (Region.wanted o (yielded L.toArray (putAll L 0 f a0).tmps)) (Oper.wp P o (putAll L 0 f a0) w K' Q) (K' ((putAll L 0 f a0).put o.dst undef) w)
theorem steady_any (hR : ∀ i v w w', St w w' → R i v w → R i v w') (hd : distB L = true) (ha : aftB L 0 = true)
    (hop : ∀ i o, L[i]? = some o → StepOK P L Q G R St a0 i o)
    (hend : ∀ f w, G w → (∀ i, i < L.length → R i (f i) w) → Q .normal (putAll L 0 f a0) w) :
    ∀ (fuel : Nat) (listed : Array Bool) (f : Nat → Value) (w : World), listed.size = L.length → Shutl .any L.toArray listed → (∃ S : List Nat, (∀ i, i < L.length → listed.getD i true = false → i ∈ S) ∧ S.length ≤ fuel) → G w →
      (∀ i, i < L.length → listed.getD i false = true → R i (f i) w) → wpAny P .any L.toArray Q fuel listed (putAll L 0 f a0) w := by
  have hall : ∀ (listed : Array Bool), listed.size = L.length → Region.ready .any L.toArray listed = [] → ∀ i, i < L.length → listed.getD i false = true := by
    intro listed hs hr i
    induction i using Nat.strongRecOn with
    | _ i ih =>
      intro hi
      cases hb : listed.getD i false with
      | true => rfl
      | false =>
        exfalso
        have hun : listed.getD i true = false := by
          have hi' : i < listed.size := by omega
          simp [Array.getD, hi'] at hb ⊢
          exact hb
        obtain ⟨o, ho⟩ : ∃ o, L[i]? = some o := ⟨L[i], by simp [hi]⟩
        have hm : i ∈ Region.ready .any L.toArray listed := mem_ready.2 ⟨hun, o, by simpa using ho, fun e he hb => by
          have h1 := aftB_lt L 0 i o ha ho e he hb
          exact ih e.on (by omega) (by omega)⟩
        rw [hr] at hm
        cases hm
  intro fuel
  induction fuel with
  | zero =>
    intro listed f w hs hc hS hG hf
    obtain ⟨S, hS1, hS2⟩ := hS
    have hS0 : S = [] := List.eq_nil_of_length_eq_zero (by omega)
    have hr : Region.ready .any L.toArray listed = [] := by
      rw [List.eq_nil_iff_forall_not_mem]
      intro i hi
      obtain ⟨hun, o, ho, _⟩ := mem_ready.1 hi
      have hlt : i < L.length := by
        have := (Array.getElem?_eq_some_iff.1 ho).1
        simpa using this
      have := hS1 i hlt hun
      rw [hS0] at this
      cases this
    exact ⟨hr, hend f w hG (fun i hi => hf i hi (hall listed hs hr i hi))⟩
  | succ fuel ih =>
    intro listed f w hs hc hS hG hf
    refine ⟨fun hr => hend f w hG (fun i hi => hf i hi (hall listed hs hr i hi)), fun i hi => ?_⟩
    obtain ⟨hun, o, ho, hafter⟩ := mem_ready.1 hi
    have hoL : L[i]? = some o := by simpa using ho
    have hlt : i < L.length := (List.getElem?_eq_some_iff.1 hoL).1
    refine wpOp_step ho (fun K' hK => ?_)
    have hW := hop i o hoL f w hG (fun j hj => ?_) K' (fun a' v w' e hG' hSt hRi => hK a' w' ?_)
    · split
      · rename_i hb; exact hW.on hb
      · rename_i hb; exact hW.off (by simpa using hb)
    · have hjl : listed.getD j false = true := reach_listed hc 12 i j hj (fun ot hot e he hb => by rw [ho] at hot; cases hot; exact hafter e he hb)
      have hjlt : j < L.length := by
        rcases Nat.lt_or_ge j listed.size with h | h
        · omega
        · have hge : ¬ j < listed.size := by omega
          simp [Array.getD, hge] at hjl
      exact hf j hjlt hjl
    · subst e
      rw [putAll_upd L 0 f a0 i o v hd hoL, Nat.zero_add]
      obtain ⟨S, hS1, hS2⟩ := hS
      refine ih _ _ _ (by simpa using hs) (hc.set hi) ⟨S.erase i, fun j hj hjun => ?_, ?_⟩ hG' (fun j hj hjl => ?_)
      · have hji : j ≠ i := by
          rintro rfl
          have hj' : j < listed.size := by omega
          simp [Array.getD, hj'] at hjun
        rw [List.mem_erase_of_ne hji]
        exact hS1 j hj (unlisted_set hjun)
      · have := List.length_erase_of_mem (hS1 i hlt hun)
        omega
      · by_cases hji : j = i
        · subst hji
          simp only [upd, if_true]
          exact hRi
        · simp only [upd]
          rw [if_neg hji]
          rw [Go.getD_set_ne false (Ne.symm hji)] at hjl
          exact hR j _ w w' hSt (hf j hj hjl)
/-- All operations, one behind the other. -/
def StepsOK (P : Program) (L : List Oper) (Q : Exit → Act → World → Prop) (G : World → Prop) (R : Nat → Value → World → Prop) (St : World → World → Prop) (a0 : Act) : List Oper → Nat → Prop
  | [], _ => True
  | o :: r, k => StepOK P L Q G R St a0 k o ∧ StepsOK P L Q G R St a0 r (k + 1)
theorem stepsOK_nil {k : Nat} : StepsOK P L Q G R St a0 [] k := trivial
theorem stepsOK_cons {o : Oper} {r : List Oper} {k : Nat} (h : ∀ (f : Nat → Value) (w : World), G w → (∀ j, reachB .any L.toArray 12 k j = true → R j (f j) w) → ∀ K' : Act → World → Prop, (∀ a' v w', a' = (putAll L 0 f a0).put o.dst v → G w' → St w w' → R k v w' → K' a' w') →
    Wanted (Region.wanted o (yielded L.toArray (putAll L 0 f a0).tmps)) (Oper.wp P o (putAll L 0 f a0) w K' Q) (K' ((putAll L 0 f a0).put o.dst undef) w)) (hr : StepsOK P L Q G R St a0 r (k + 1)) : StepsOK P L Q G R St a0 (o :: r) k := ⟨h, hr⟩
theorem stepsOK_at : ∀ (r : List Oper) (k i : Nat) (o : Oper), StepsOK P L Q G R St a0 r k → r[i]? = some o → StepOK P L Q G R St a0 (k + i) o
  | [], _, _, _, _, h => by simp at h
  | p :: r, k, 0, o, hs, h => by
    simp at h
    subst h
    exact hs.1
  | p :: r, k, i + 1, o, hs, h => by
    have := stepsOK_at r (k + 1) i o hs.2 (by simpa using h)
    rwa [show k + 1 + i = k + (i + 1) by omega] at this
/-- The law, for a region that draws. -/
theorem wp_steady {id : Nat} {w : World} (G : World → Prop) (R : Nat → Value → World → Prop) (St : World → World → Prop) (hm : P.follows .mixedOrders = true)
    (hR : ∀ i v w w', St w w' → R i v w → R i v w') (hd : distB L = true) (ha : aftB L 0 = true) (hG : G w.drew)
    (hop : StepsOK P L Q G R St a0 L 0)
    (hend : ∀ f w, G w → (∀ i, i < L.length → R i (f i) w) → Q .normal (putAll L 0 f a0) w) :
    (Code.region id L.toArray true).wp P Q a0 w := by
  refine wp_region_any hm ?_
  let f0 : Nat → Value := fun i => match L[i]? with | some o => (match o.dst with | some t => a0.tmps.getD t undef | none => undef) | none => undef
  have h0 := putAll_self L 0 f0 a0 (fun i o t ho hd => by simp [f0, ho, hd])
  have := steady_any (P := P) (L := L) (Q := Q) (G := G) (R := R) (St := St) (a0 := a0) hR hd ha (fun i o ho => by have := stepsOK_at L 0 i o hop ho; rwa [Nat.zero_add] at this) hend L.length (Array.replicate L.length false) f0 w.drew (by simp) (shutl_none _) ⟨List.range L.length, fun i hi _ => List.mem_range.2 hi, by simp⟩ hG (fun i hi hl => by rw [getD_replicate_false] at hl; cases hl)
  rw [h0] at this
  simpa using this
end
/-- What stays true while memory grows. -/
def Stab (p : Value → World → Prop) : Prop := ∀ v w w', Below w.heap.size w w' → p v w → p v w'
def AllStab : List (Value → World → Prop) → Prop
  | [] => True
  | p :: r => Stab p ∧ AllStab r
def isV (c : Value) : Value → World → Prop := fun v _ => v = c
def anyV : Value → World → Prop := fun _ _ => True
theorem stab_is (c : Value) : Stab (isV c) := fun _ _ _ _ h => h
theorem stab_any : Stab anyV := fun _ _ _ _ h => h
def atR (l : List (Value → World → Prop)) (i : Nat) : Value → World → Prop := l.getD i anyV
theorem atR_stab : ∀ {l : List (Value → World → Prop)}, AllStab l → ∀ i, Stab (atR l i)
  | [], _, i => by simp only [atR, List.getD_nil]; exact stab_any
  | p :: r, h, 0 => h.1
  | p :: r, h, i + 1 => atR_stab (l := r) h.2 i
def grows (w w' : World) : Prop := Below w.heap.size w w'
/-- The law, where memory grows alone: each operation behind what it waits for. -/
theorem wp_grow {P : Program} {L : List Oper} {Q : Exit → Act → World → Prop} {a0 : Act} {id : Nat} {w : World} (l : List (Value → World → Prop)) (hl : AllStab l) (hm : P.follows .mixedOrders = true) (hd : distB L = true) (ha : aftB L 0 = true)
    (hop : StepsOK P L Q (fun u => Below w.heap.size w u) (atR l) grows a0 L 0)
    (hend : ∀ f u, Below w.heap.size w u → (∀ i, i < L.length → atR l i (f i) u) → Q .normal (putAll L 0 f a0) u) :
    (Code.region id L.toArray true).wp P Q a0 w :=
  wp_steady (fun u => Below w.heap.size w u) (atR l) grows hm (fun i v w w' h h2 => atR_stab hl i v w w' h h2) hd ha ((Below.refl _ _).drew) hop hend
end Go.Proofs.Ytcnpoldcebdhjaa
