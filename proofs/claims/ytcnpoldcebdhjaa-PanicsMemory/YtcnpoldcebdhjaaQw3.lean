/- The work's end, and an activation that begins. -/
import Derived.Test.YtcnpoldcebdhjaaQw2
namespace Go.Proofs.Ytcnpoldcebdhjaa
open Go.ChangeShapes Go.WideShapes Go.ChangeAt Go.RowKit
set_option maxRecDepth 100000
set_option linter.unusedSimpArgs false
set_option linter.unusedVariables false
def St.done (st : St) (e s : Int) : St := { st with fin := e, stat := s }
def tEnd (e : Int) : Tl := ⟨7, e, 0, .nix⟩
set_option maxHeartbeats 1000000 in
theorem own_finish (B p : Nat) (st : St) (td : List Tl) (e s : Int) (w : World) (h : WkI B p w st td) (hB0 : B ≤ w.heap.size) (hz : td.length ≤ 1000000) :
    Calls Try.prog 47 #[.pointer (some ⟨p, 0, none⟩), .int .i64 e, .int .i64 s] w fun x w' => x = .returned (.tuple #[]) ∧ WkI B p w' (st.done e s) (td ++ [tEnd e]) ∧ Below B w w' := by
  obtain ⟨F, P, T, fes, h⟩ := h
  obtain ⟨-, ⟨-, -, -, -, f4, f5, -⟩⟩ := box7 h.box
  obtain ⟨⟨-, -, -, -, x4, x5, -⟩, -⟩ := box7 h.box
  obtain ⟨h1, b1⟩ := h.put0 4 (.int .i64 e) (by decide) (F' := F) (P' := P) (T' := T) (st' := { st with fin := e }) rfl h.fr h.ps h.td
  obtain ⟨h2, b2⟩ := h1.put0 5 (.int .i64 s) (by decide) (F' := F) (P' := P) (T' := T) (st' := { st with fin := e, stat := s }) rfl h1.fr h1.ps h1.td
  have HH : Hid (WkI B p ((w.setCell ⟨p, 4, none⟩ (.int .i64 e)).setCell ⟨p, 5, none⟩ (.int .i64 s)) (st.done e s) td) := ⟨_, _, _, _, h2⟩
  have HB : Hid (Below B w ((w.setCell ⟨p, 4, none⟩ (.int .i64 e)).setCell ⟨p, 5, none⟩ (.int .i64 s))) := b1.trans b2
  have HB0 : Hid (B ≤ w.heap.size) := hB0
  clear h h1 h2 b1 b2 hB0
  go_enter Try.func47, Try.ntmps47
  go_wp2_with fail
  refine (own_tell B p (st.done e s) td (tEnd e) _ HH.out (Nat.le_trans HB0.out HB.out.size) hz).mono ?_
  rintro x w2 ⟨rfl, h3, h4⟩
  have HF : Hid (WkI B p w2 (st.done e s) (td ++ [tEnd e]) ∧ Below B w w2) := ⟨h3, HB.out.trans h4⟩
  clear h3 h4
  go_wp2_with fail
  go_end0
  exact ⟨rfl, HF.out⟩
theorem fr_lit {B : Nat} {u : World} {a b c : Int} (hB : B ≤ u.heap.size) : (u.alloc (.cells #[.int .i64 a, .int .i64 b, .int .i64 c, .int .i64 0, .slice none 0 0] 53)).ownsRow B 53 5 (.slice (some ⟨u.heap.size, 0, none⟩) 1 1) 1 (Fe.cells ⟨⟨a, b, c, 0, []⟩, .slice none 0 0⟩) :=
  World.ownsRow_lit u #[.int .i64 a, .int .i64 b, .int .i64 c, .int .i64 0, .slice none 0 0] 1 hB (by decide) rfl
def St.push (st : St) (mark pan : Int) : St := { st with fr := ⟨st.next, mark, pan, 0, []⟩ :: st.fr, next := st.next + 1 }
theorem Wk.grownF {B p : Nat} {w w' : World} {F F' P T : Value} {fes : List Fe} {st : St} {td : List Tl} {e : Fe} (h : Wk B p w F P T fes st td) (hg : w.grownBy w' F.ownBlock) (hr : w'.ownsRow B 53 5 F' (fes ++ [e]).length (rc Fe.cells (fes ++ [e]))) (hd : e.x.df = []) (hL : e.L = .slice none 0 0) :
    Wk B p (w'.setCell ⟨p, 0, none⟩ F') F' P T (fes ++ [e]) { st with fr := e.x :: st.fr } td ∧ w'.cell? ⟨p, 0, none⟩ = some F ∧ w'.frozen? ⟨p, 0, none⟩ = false ∧ Below B w' (w'.setCell ⟨p, 0, none⟩ F') := by
  have ht := row_typed h.fr.row
  have ht' : ∀ g, F.ownBlock = some g → ∃ cs z, w.heap[g]? = some (.cells cs 53 z) := fun g hg => by obtain ⟨cs, h2⟩ := ht g hg; exact ⟨_, _, h2⟩
  have hbox : w'.heap[p]? = some (.cells #[F, P, .int .i64 st.next, .int .i64 st.ser, .int .i64 st.fin, .int .i64 st.stat, T] 62 (0, 0)) := by
    rw [hg.block p h.lt (fun e => by obtain ⟨cs, z, h2⟩ := ht' p e.symm; rw [h.box] at h2; simp at h2)]
    exact h.box
  have hfr := h.fr.grownF hg hr hd hL
  have hps := row_grown h.ps hg ht' (by decide)
  have htd := row_grown h.td hg ht' (by decide)
  have hoth : ∀ b, b ≠ p → b < w'.heap.size → (w'.setCell ⟨p, 0, none⟩ F').heap[b]? = w'.heap[b]? := fun b hb _ => heap_setCell_other _ _ _ _ (by simpa using hb)
  refine ⟨⟨?_, h.low, ⟨row_far hfr.row hbox (by decide) hoth, fun e he => row_far (hfr.own e he) hbox (by decide) hoth, hfr.apart, by rw [hfr.xs, List.reverse_cons]⟩, row_far hps hbox (by decide) hoth, row_far htd hbox (by decide) hoth⟩, ?_, ?_, (Below.refl _ _).setCell h.low F'⟩
  · rw [heap_setCell_same w' p 0 _ 62 F' hbox]
    rfl
  · exact (box7 hbox).1.1
  · exact (box7 hbox).2.1
set_option maxHeartbeats 2000000 in
theorem own_begin (B p : Nat) (st : St) (td : List Tl) (mark pan : Int) (w : World) (h : WkI B p w st td) (hB0 : B ≤ w.heap.size) (hz : td.length ≤ 1000000) (hn0 : 0 ≤ st.next) (hn1 : st.next ≤ 1000000) :
    Calls Try.prog 50 #[.pointer (some ⟨p, 0, none⟩), .int .i64 mark, .int .i64 pan] w fun x w' => ((30 ≤ st.fr.length ∧ x = .returned (.tuple #[.int .i64 0, .bool false]) ∧ WkI B p w' (st.done 6 0) (td ++ [tEnd 6])) ∨ (st.fr.length < 30 ∧ x = .returned (.tuple #[.int .i64 st.next, .bool true]) ∧ WkI B p w' (st.push mark pan) td)) ∧ Below B w w' := by
  have HH : Hid (WkI B p w st td) := h
  have HB0 : Hid (B ≤ w.heap.size) := hB0
  obtain ⟨F, P, T, fes, h⟩ := h
  obtain ⟨⟨x0, -, x2, -⟩, ⟨f0, -, f2, -⟩⟩ := box7 h.box
  have hfl : fes.length = st.fr.length := by rw [h.fr.len, List.length_reverse]
  obtain ⟨fo, fc, hF⟩ := row_slice h.fr.row
  rw [hfl] at hF
  subst hF
  by_cases hd : 30 ≤ st.fr.length
  · have hdi : (30 : Int) ≤ (st.fr.length : Int) := by omega
    have HD : Hid (30 ≤ st.fr.length) := hd
    clear h hd hfl hB0
    go_enter Try.func50, Try.ntmps50
    go_wp2_with fail
    refine (own_finish B p st td 6 0 _ HH.out HB0.out hz).mono ?_
    rintro x w2 ⟨rfl, h3, h4⟩
    have HF : Hid (WkI B p w2 (st.done 6 0) (td ++ [tEnd 6]) ∧ Below B w w2) := ⟨h3, h4⟩
    clear h3 h4
    go_wp2_with fail
    go_ret2
    exact ⟨.inl ⟨HD.out, rfl, HF.out.1⟩, HF.out.2⟩
  · have hdi : (st.fr.length : Int) < 30 := by omega
    have HD : Hid (st.fr.length < 30) := by show st.fr.length < 30; omega
    obtain ⟨h1, b1⟩ := h.put0 2 (.int .i64 (st.next + 1)) (by decide) (F' := .slice fo st.fr.length fc) (P' := P) (T' := T) (st' := { st with next := st.next + 1 }) rfl h.fr h.ps h.td
    obtain ⟨w1, hw1⟩ : ∃ x, x = w.setCell ⟨p, 2, none⟩ (.int .i64 (st.next + 1)) := ⟨_, rfl⟩
    rw [← hw1] at h1 b1
    have ha : Below w1.heap.size w1 (w1.alloc (.cells #[.int .i64 st.next, .int .i64 mark, .int .i64 pan, .int .i64 0, .slice none 0 0] 53)) := (Below.refl _ _).alloc (Nat.le_refl _) _
    have h2 := h1.below ha
    have HG : Hid (∀ F' w', w'.ownsRow B 53 5 F' (fes ++ [Fe.mk (Fr.mk st.next mark pan 0 []) (Value.slice none 0 0)]).length (rc Fe.cells (fes ++ [Fe.mk (Fr.mk st.next mark pan 0 []) (Value.slice none 0 0)])) → (w1.alloc (.cells #[.int .i64 st.next, .int .i64 mark, .int .i64 pan, .int .i64 0, .slice none 0 0] 53)).grownBy w' (Value.slice fo st.fr.length fc).ownBlock → Below B (w1.alloc (.cells #[.int .i64 st.next, .int .i64 mark, .int .i64 pan, .int .i64 0, .slice none 0 0] 53)) w' → w'.cell? ⟨p, 0, none⟩ = some (.slice fo st.fr.length fc) ∧ w'.frozen? ⟨p, 0, none⟩ = false ∧ (∃ ao cap, F' = .slice ao (st.fr.length + 1) cap) ∧ Hid (WkI B p (w'.setCell ⟨p, 0, none⟩ F') (st.push mark pan) td ∧ Below B w (w'.setCell ⟨p, 0, none⟩ F'))) := fun F' w' hr hg hb => by
      obtain ⟨q1, q2, q3, q4⟩ := h2.grownF (e := ⟨⟨st.next, mark, pan, 0, []⟩, .slice none 0 0⟩) hg hr rfl rfl
      have hI : WkI B p (w'.setCell ⟨p, 0, none⟩ F') (st.push mark pan) td := ⟨_, _, _, _, q1⟩
      refine ⟨q2, q3, ?_, hI, (b1.trans ((ha.mono (Nat.le_trans hB0 b1.size)).trans hb)).trans q4⟩
      obtain ⟨ao, cap, h3⟩ := row_slice hr
      exact ⟨ao, cap, by rw [h3, List.length_append, hfl]; rfl⟩
    have HR : Hid ((w1.alloc (.cells #[.int .i64 st.next, .int .i64 mark, .int .i64 pan, .int .i64 0, .slice none 0 0] 53)).ownsRow B 53 5 (.slice fo st.fr.length fc) fes.length (rc Fe.cells fes)) := h2.fr.row
    have HL : Hid ((w1.alloc (.cells #[.int .i64 st.next, .int .i64 mark, .int .i64 pan, .int .i64 0, .slice none 0 0] 53)).ownsRow B 53 5 (.slice (some ⟨w.heap.size, 0, none⟩) 1 1) 1 (Fe.cells ⟨⟨st.next, mark, pan, 0, []⟩, .slice none 0 0⟩)) := by
      have e : w1.heap.size = w.heap.size := by rw [hw1]; simp [World.setCell]
      rw [← e]
      exact fr_lit (Nat.le_trans hB0 b1.size)
    have HZ : Hid (B ≤ (w1.alloc (.cells #[.int .i64 st.next, .int .i64 mark, .int .i64 pan, .int .i64 0, .slice none 0 0] 53)).heap.size) := Nat.le_trans (Nat.le_trans hB0 b1.size) ha.size
    have HFL : Hid (fes.length < 30) := by rw [hfl]; exact HD.out
    obtain ⟨⟨y0, -, y2, -⟩, -⟩ := box7 h1.box
    clear h h1 h2 b1 hd hfl hB0 ha
    go_enter Try.func50, Try.ntmps50
    subst hw1
    go_wp2_with (at_builtin; refine gappL rfl _ _ Fe.len Try.infoFr rfl (by decide) Try.underlying23 rfl rfl rfl HR.out HL.out (Fe.one rfl) HZ.out (by have := HFL.out; omega) (by decide) ?_; intro v' w2 hr hg hb; obtain ⟨z0, zf, ⟨ao, cap, rfl⟩, HF⟩ := HG.out v' w2 hr hg hb; clear hr hg hb)
    go_ret2
    exact ⟨.inr ⟨HD.out, rfl, HF.out.1⟩, HF.out.2⟩
end Go.Proofs.Ytcnpoldcebdhjaa
