/- What fault.Read answers. -/
import Derived.Test.YtjmklmcnlieplaaDoorFmeant
import Derived.Test.YtjmklmcnlieplaaDoorFbox
namespace Go.Proofs.YtjmklmcnlieplaaDoor
open Go.ChangeShapes Go.WideShapes Go.ChangeAt Go.RowKit
set_option maxRecDepth 100000
set_option linter.unusedSimpArgs false
set_option linter.unusedVariables false
/-- The variable of the forms. -/
def Forms (w : World) : Prop := ∀ j, j < 10 → w.cell? ⟨0, j, none⟩ = some (.string (formB j))
theorem Forms.below {w w' : World} (h : Forms w) (hb : Below w.heap.size w w') : Forms w' := fun j hj => by
  rw [hb.cell (World.block_lt_of_cell? _ _ (h j hj))]; exact h j hj
def formsV : Value := .agg #[.string (formB 0), .string (formB 1), .string (formB 2), .string (formB 3), .string (formB 4), .string (formB 5), .string (formB 6), .string (formB 7), .string (formB 8), .string (formB 9)]
theorem index_forms (k : Nat) (h : k < 10) (W : World) : (Instr.index 37 formsV (.int .i64 (k : Int))).run Tryd.prog W = .ok (.string (formB k)) W := by
  rcases ten k h with rfl | rfl | rfl | rfl | rfl | rfl | rfl | rfl | rfl | rfl <;> kernel_rfl
theorem list_inj {a b : ByteArray} (h : a.toList = b.toList) : a = b := by
  rw [ByteArray.toList_eq, ByteArray.toList_eq] at h
  exact ByteArray.ext (Array.ext' h)
def ReadsAs (s : ByteArray) (g : Fl) (ec : Int) : Prop :=
  (ec = 0 ∧ ∃ i n0 n1, i < 10 ∧ I64 n0 ∧ I64 n1 ∧ haspB s leadB = true ∧ matchF (formP i) (cutpB s leadB) = some (n0, n1) ∧ g = meantF i n0 n1 ∧ textF g = s) ∨
  (ec = 6 ∧ g = f0 ∧ (haspB s leadB = true → ∀ i n0 n1, i < 10 → matchF (formP i) (cutpB s leadB) = some (n0, n1) → textF (meantF i n0 n1) ≠ s))
def ReadPost (s : ByteArray) (w : World) (e : Ending) (w' : World) : Prop := ∃ g ec, e = .returned (.tuple #[fv g, .int .i64 ec]) ∧ ReadsAs s g ec ∧ Below w.heap.size w w'
def fbox (x : Fl) : Obj := .cells #[.int .i64 x.k, .int .i64 x.a, .int .i64 x.b, .int .i64 x.c] 23 (0, 0)
theorem fbox4 {w : World} {b : Nat} {x : Fl} (h : w.heap[b]? = some (fbox x)) : (w.cell? ⟨b, 0, none⟩ = some (.int .i64 x.k) ∧ w.cell? ⟨b, 1, none⟩ = some (.int .i64 x.a) ∧ w.cell? ⟨b, 2, none⟩ = some (.int .i64 x.b) ∧ w.cell? ⟨b, 3, none⟩ = some (.int .i64 x.c)) ∧ w.frozen? ⟨b, 0, none⟩ = false ∧ w.frozen? ⟨b, 1, none⟩ = false ∧ w.frozen? ⟨b, 2, none⟩ = false ∧ w.frozen? ⟨b, 3, none⟩ = false := by
  unfold fbox at h
  simp [World.cell?, World.frozen?, h]
def set4 (w : World) (b : Nat) (x : Fl) : World := (((w.setCell ⟨b, 0, none⟩ (.int .i64 x.k)).setCell ⟨b, 1, none⟩ (.int .i64 x.a)).setCell ⟨b, 2, none⟩ (.int .i64 x.b)).setCell ⟨b, 3, none⟩ (.int .i64 x.c)
set_option maxHeartbeats 8000000 in
theorem own_read (s : ByteArray) (hs : s.size ≤ 140737488355328) (w : World) (hl : Lib3 w) (hfm : Forms w) :
    Calls Tryd.prog 7 #[.string s] w (ReadPost s w) := by
  have HCU : Hid (∀ W, Calls Tryd.prog 12 #[.string s, .string ⟨#[114, 117, 110, 116, 105, 109, 101, 32, 101, 114, 114, 111, 114, 58, 32]⟩] W fun e w' => e = .returned (.tuple #[.string (cutpB s leadB), .bool (haspB s leadB)]) ∧ w' = W) := fun W => cut_any s leadB W
  cases hh : haspB s leadB with
  | false =>
    rw [hh] at HCU
    have HN : Hid (ReadsAs s f0 6) := .inr ⟨rfl, rfl, fun h => by rw [hh] at h; cases h⟩
    clear hh hl hfm
    go_enter Tryd.func7, Tryd.ntmps7
    go_wp2_with fail
    refine (HCU.out _).mono ?_
    rintro e u0 ⟨rfl, hu⟩
    rw [hu]; clear hu
    go_wp2_with fail
    exact bodyPost_ret (v := .tuple #[fv f0, .int .i64 6]) (by simp [fv, f0, results, Tryd.results7, go_sem]) rfl ⟨f0, 6, rfl, HN.out, (Below.refl _ _).alloc (Nat.le_refl _) _⟩
  | true =>
    rw [hh] at HCU
    have HH : Hid (haspB s leadB = true) := hh
    have hrs : (cutpB s leadB).size ≤ 140737488355328 := Nat.le_trans (cut_le _ _) hs
    have HMA : Hid (∀ k W, k < 10 → Below w.heap.size w W → Calls Tryd.prog 13 #[.string (cutpB s leadB), .string (formB k)] W (MatchPost (formP k) (cutpB s leadB) W)) := fun k W hk hW => own_match _ _ _ (form_is k hk) hrs W (hl.below hW)
    have HTX : Hid (∀ x W, FIn x → Below w.heap.size w W → Calls Tryd.prog 5 #[.agg #[.int .i64 x.k, .int .i64 x.a, .int .i64 x.b, .int .i64 x.c]] W fun e w' => e = .returned (.string (textF x)) ∧ Below W.heap.size W w') := fun x W hx hW => own_text x hx W (hl.below hW).1
    have HFM : Hid (Forms (w.alloc (fbox f0))) := hfm.below ((Below.refl _ _).alloc (Nat.le_refl _) _)
    obtain ⟨rest, hrest⟩ : ∃ r, r = cutpB s leadB := ⟨_, rfl⟩
    have HRE : Hid (rest = cutpB s leadB) := hrest
    rw [← hrest] at HCU HMA
    clear hh hl hfm hrs hrest hs
    have c0 := HFM.out 0 (by decide)
    have c1 := HFM.out 1 (by decide)
    have c2 := HFM.out 2 (by decide)
    have c3 := HFM.out 3 (by decide)
    have c4 := HFM.out 4 (by decide)
    have c5 := HFM.out 5 (by decide)
    have c6 := HFM.out 6 (by decide)
    have c7 := HFM.out 7 (by decide)
    have c8 := HFM.out 8 (by decide)
    have c9 := HFM.out 9 (by decide)
    unfold fbox f0 at c0 c1 c2 c3 c4 c5 c6 c7 c8 c9
    clear HFM
    go_enter Tryd.func7, Tryd.ntmps7
    go_wp2_with fail
    refine (HCU.out _).mono ?_
    rintro e u0 ⟨rfl, hu⟩
    rw [hu]; clear hu
    go_wp2_with fail
    go_loopw [20] (fun iv wr => ∃ k : Nat, k ≤ 10 ∧ iv = .int .i64 k ∧ Hid ((∀ i n0 n1, i < k → matchF (formP i) rest = some (n0, n1) → textF (meantF i n0 n1) ≠ s) ∧ wr.heap[w.heap.size]? = some (fbox f0) ∧ Below w.heap.size w wr)) (fun i _ => 10 - (intOf i).toNat)
    case atStart =>
      refine ⟨0, Nat.zero_le _, rfl, fun i n0 n1 h => by omega, ?_, (Below.refl _ _).alloc (Nat.le_refl _) _⟩
      exact Array.getElem?_push_size
    case round =>
      obtain ⟨k, hk, rfl, HQ⟩ := hrel
      clear c0 c1 c2 c3 c4 c5 c6 c7 c8 c9
      have hsz : w.heap.size < wr.heap.size := (Array.getElem?_eq_some_iff.1 HQ.out.2.1).1
      by_cases hlt : k < 10
      · have hix := index_forms k hlt
        unfold formsV at hix
        have hlt2 : (k : Int) < 10 := by omega
        go_wp2_with fail
        refine (HMA.out k wr hlt HQ.out.2.2).mono ?_
        rintro e u1 ⟨n0, n1, ok, rfl, hy, hn, b1⟩
        have HB1 : Hid (Below w.heap.size w u1) := HQ.out.2.2.trans (b1.mono (by omega))
        have hz1 : wr.heap.size ≤ u1.heap.size := b1.size
        have HR1 : Hid (u1.heap[w.heap.size]? = some (fbox f0)) := (b1.block _ hsz).trans HQ.out.2.1
        clear hix b1
        cases ok with
        | false =>
          have HX : Hid (∀ i a b, i < k + 1 → matchF (formP i) rest = some (a, b) → textF (meantF i a b) ≠ s) := fun i a b hi hm => by
            by_cases e : i = k
            · subst e; rw [hn rfl] at hm; cases hm
            · exact HQ.out.1 i a b (by omega) hm
          clear hy hn
          go_wp2_with fail
          go_roundw
          case rel => exact ⟨k + 1, by omega, by go_num, HX.out, (Below.heap_alloc _ _ _ (by omega)).trans HR1.out, HB1.out.alloc (by omega) _⟩
          case measure => simp [intOf]; omega
        | true =>
          obtain ⟨hm, i0, i1⟩ := hy rfl
          have HM : Hid (matchF (formP k) rest = some (n0, n1) ∧ I64 n0 ∧ I64 n1) := ⟨hm, i0, i1⟩
          have HME : Hid (∀ W, Calls Tryd.prog 14 #[.string (formB k), .agg #[.int .i64 n0, .int .i64 n1]] W fun e w' => e = .returned (fv (meantF k n0 n1)) ∧ Below W.heap.size W w') := own_meant k hlt n0 n1
          have HTT : Hid (∀ W, Below w.heap.size w W → Calls Tryd.prog 5 #[.agg #[.int .i64 (meantF k n0 n1).k, .int .i64 (meantF k n0 n1).a, .int .i64 (meantF k n0 n1).b, .int .i64 (meantF k n0 n1).c]] W fun e w' => e = .returned (.string (textF (meantF k n0 n1))) ∧ Below W.heap.size W w') := fun W h => HTX.out _ W (meant_in k hlt i0 i1) h
          obtain ⟨m, hmm⟩ : ∃ m, m = meantF k n0 n1 := ⟨_, rfl⟩
          have HMM : Hid (m = meantF k n0 n1) := hmm
          rw [← hmm] at HME HTT
          clear hmm hm i0 i1 hy hn HTX
          go_wp2_with fail
          refine (HME.out _).mono ?_
          rintro e u2 ⟨rfl, b2⟩
          have hz2 : u1.heap.size + 1 ≤ u2.heap.size := by have := b2.size; simp at this; omega
          have HB2 : Hid (Below w.heap.size w u2) := HB1.out.trans ((below_up b2).mono (by omega))
          have HR2 : Hid (u2.heap[w.heap.size]? = some (fbox f0)) := ((below_up b2).block _ (by omega)).trans HR1.out
          clear b2
          unfold fv
          go_wp2_with fail
          refine (HTT.out _ (HB2.out.alloc (by omega) _)).mono ?_
          rintro e u3 ⟨rfl, b3⟩
          have hz3 : u2.heap.size + 1 ≤ u3.heap.size := by have := b3.size; simp at this; omega
          have HB3 : Hid (Below w.heap.size w u3) := HB2.out.trans ((below_up b3).mono (by omega))
          have HR3 : Hid (u3.heap[w.heap.size]? = some (fbox f0)) := ((below_up b3).block _ (by omega)).trans HR2.out
          have HX3 : Hid (u3.heap[u2.heap.size]? = some (fbox m)) := box_stays b3
          clear b3
          cases he : ((textF m).toList == s.toList) with
          | true =>
            obtain ⟨⟨d0, d1, d2, d3⟩, -⟩ := fbox4 HX3.out
            obtain ⟨⟨r0, r1, r2, r3⟩, q0, q1, q2, q3⟩ := fbox4 HR3.out
            have hz0 : w.heap.size < u3.heap.size := by omega
            have hz4 : w.heap.size ≠ u2.heap.size := by omega
            have HA : Hid (ReadsAs s m 0) := .inl ⟨rfl, k, n0, n1, hlt, HM.out.2.1, HM.out.2.2, HH.out, by rw [← HRE.out]; exact HM.out.1, HMM.out, list_inj (eq_of_beq he)⟩
            go_wp2_with fail
            exact bodyPost_ret (v := .tuple #[fv m, .int .i64 0]) (by simp [fv, results, Tryd.results7, go_sem, hz0, r0, r1, r2, r3]) rfl ⟨m, 0, rfl, HA.out, (((HB3.out.setCell (Nat.le_refl _) _).setCell (Nat.le_refl _) _).setCell (Nat.le_refl _) _).setCell (Nat.le_refl _) _⟩
          | false =>
            have HX : Hid (∀ i a b, i < k + 1 → matchF (formP i) rest = some (a, b) → textF (meantF i a b) ≠ s) := fun i a b hi hm => by
              by_cases e : i = k
              · subst e; rw [HM.out.1] at hm; cases hm; rw [← HMM.out]; intro h; rw [h] at he; simp at he
              · exact HQ.out.1 i a b (by omega) hm
            go_wp2_with fail
            go_roundw
            case rel => exact ⟨k + 1, by omega, by go_num, HX.out, HR3.out, HB3.out⟩
            case measure => simp [intOf]; omega
      · obtain rfl : k = 10 := by omega
        obtain ⟨⟨r0, r1, r2, r3⟩, q0, q1, q2, q3⟩ := fbox4 HQ.out.2.1
        have HB : Hid (Below w.heap.size w wr) := HQ.out.2.2
        have HA : Hid (ReadsAs s f0 6) := .inr ⟨rfl, rfl, fun _ i a b hi hm => HQ.out.1 i a b hi (by rw [HRE.out]; exact hm)⟩
        go_wp2_with fail
        exact bodyPost_ret (v := .tuple #[fv f0, .int .i64 6]) (by simp [fv, f0, results, Tryd.results7, go_sem, hsz, r0, r1, r2, r3]) rfl ⟨f0, 6, rfl, HA.out, (((HB.out.setCell (Nat.le_refl _) _).setCell (Nat.le_refl _) _).setCell (Nat.le_refl _) _).setCell (Nat.le_refl _) _⟩
end Go.Proofs.YtjmklmcnlieplaaDoor
