/- A region that draws its order and writes a slot that it has read: what that slot holds until then is told. -/
import Derived.Test.YtjmklmcnlieplaaDoorSteady3
namespace Go.Proofs.YtjmklmcnlieplaaDoor
open Go.RowKit
set_option linter.unusedSimpArgs false

section
variable {P : Program} {L : List Oper} {Q : Exit → Act → World → Prop} {G : World → Prop} {R : Nat → Value → World → Prop} {St : World → World → Prop} {a0 : Act} {last : Nat} {v0 : Value}
def StepOK4 (P : Program) (L : List Oper) (Q : Exit → Act → World → Prop) (G : World → Prop) (R : Nat → Value → World → Prop) (St : World → World → Prop) (last : Nat) (v0 : Value) (a0 : Act) (i : Nat) (o : Oper) : Prop :=
  ∀ (f : Nat → Value) (w : World), G w → (∀ j, reachB .any L.toArray 12 i j = true → R j (f j) w) → (reachB .any L.toArray 12 last i = true → f last = v0) → ∀ K' : Act → World → Prop, (∀ a' v w', a' = (putAll L 0 f a0).put o.dst v → G w' → St w w' → R i v w' → K' a' w') →
    Wanted (Region.wanted o (yielded L.toArray (putAll L 0 f a0).tmps)) (Oper.wp P o (putAll L 0 f a0) w K' Q) (K' ((putAll L 0 f a0).put o.dst undef) w)
def StepsOK4 (P : Program) (L : List Oper) (Q : Exit → Act → World → Prop) (G : World → Prop) (R : Nat → Value → World → Prop) (St : World → World → Prop) (last : Nat) (v0 : Value) (a0 : Act) : List Oper → Nat → Prop
  | [], _ => True
  | o :: r, k => StepOK4 P L Q G R St last v0 a0 k o ∧ StepsOK4 P L Q G R St last v0 a0 r (k + 1)
theorem stepsOK4_nil {k : Nat} : StepsOK4 P L Q G R St last v0 a0 [] k := trivial
theorem stepsOK4_cons {o : Oper} {r : List Oper} {k : Nat} (h : ∀ (f : Nat → Value) (w : World), G w → (∀ j, reachB .any L.toArray 12 k j = true → R j (f j) w) → (reachB .any L.toArray 12 last k = true → f last = v0) → ∀ K' : Act → World → Prop, (∀ a' v w', a' = (putAll L 0 f a0).put o.dst v → G w' → St w w' → R k v w' → K' a' w') →
    Wanted (Region.wanted o (yielded L.toArray (putAll L 0 f a0).tmps)) (Oper.wp P o (putAll L 0 f a0) w K' Q) (K' ((putAll L 0 f a0).put o.dst undef) w)) (hr : StepsOK4 P L Q G R St last v0 a0 r (k + 1)) : StepsOK4 P L Q G R St last v0 a0 (o :: r) k := ⟨h, hr⟩
theorem stepsOK4_at : ∀ (r : List Oper) (k i : Nat) (o : Oper), StepsOK4 P L Q G R St last v0 a0 r k → r[i]? = some o → StepOK4 P L Q G R St last v0 a0 (k + i) o
  | [], _, _, _, _, h => by simp at h
  | p :: r, k, 0, o, hs, h => by
    simp at h
    subst h
    exact hs.1
  | p :: r, k, i + 1, o, hs, h => by
    have := stepsOK4_at r (k + 1) i o hs.2 (by simpa using h)
    rwa [show k + 1 + i = k + (i + 1) by omega] at this
/-- What a slot holds at first. -/
def slot0 (L : List Oper) (a0 : Act) (i : Nat) : Value := match L[i]? with | some o => (match o.dst with | some t => a0.tmps.getD t undef | none => undef) | none => undef
theorem wp_grow4 {id : Nat} {w : World} (l : List (Value → World → Prop)) (last : Nat) (v0 : Value) (hl : AllStab l) (hm : P.follows .mixedOrders = true) (hd : distB L = true) (ha : aftB L 0 = true) (hv : slot0 L a0 last = v0)
    (hop : StepsOK4 P L Q (fun u => Below w.heap.size w u) (atR l) grows last v0 a0 L 0)
    (hend : ∀ f u, Below w.heap.size w u → (∀ i, i < L.length → atR l i (f i) u) → Q .normal (putAll L 0 f a0) u) :
    (Code.region id L.toArray true).wp P Q a0 w := by
  refine wp_region_any hm ?_
  have h0 := putAll_self L 0 (slot0 L a0) a0 (fun i o t ho hd => by simp [slot0, ho, hd])
  let G : (Nat → Bool) → (Nat → Value) → World → Prop := fun d f u => Below w.heap.size w u ∧ (∀ j, d j = true → atR l j (f j) u) ∧ (d last = false → f last = v0)
  have step : ∀ i o, L[i]? = some o → StepOK3 P L Q G a0 i o := fun i o ho f d u hG hn hdn hno K' hK => by
    have h4 := stepsOK4_at L 0 i o hop ho
    rw [Nat.zero_add] at h4
    refine h4 f u hG.1 (fun j hj => hG.2.1 j (hdn j hj)) (fun hr => hG.2.2 (hno last hr)) K' (fun a' v w' e hb hg hv' => hK a' v w' e ⟨hb, fun j hj => ?_, fun hj => ?_⟩)
    · by_cases hji : j = i
      · subst hji; simp only [upd, if_pos]; exact hv'
      · simp only [updB, if_neg hji] at hj
        simp only [upd, if_neg hji]
        exact atR_stab hl j _ _ _ hg (hG.2.1 j hj)
    · by_cases hji : last = i
      · simp [updB, hji] at hj
      · simp only [updB, if_neg hji] at hj
        simp only [upd, if_neg hji]
        exact hG.2.2 hj
  have := steady_any3 (P := P) (L := L) (Q := Q) (G := G) (a0 := a0) hd ha step (fun f d u hG hall => hend f u hG.1 (fun i hi => hG.2.1 i (hall i hi))) L.length (Array.replicate L.length false) (slot0 L a0) w.drew (by simp) (shutl_none _) ⟨List.range L.length, fun i hi _ => List.mem_range.2 hi, by simp⟩ (by
    have e : (fun j => (Array.replicate L.length false).getD j false) = fun _ => false := by funext j; simp [Array.getD]
    rw [e]; exact ⟨(Below.refl _ _).drew, fun j hj => by (simp at hj), fun _ => hv⟩)
  rw [h0] at this
  simpa using this
end
end Go.Proofs.YtjmklmcnlieplaaDoor
