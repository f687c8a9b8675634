/- Memory: numbers and calls that are written over. -/
import Derived.Test.YtiaoidbhdkldlabDmem2
namespace Go.Proofs.Ytiaoidbhdkldlab
open Go.ChangeShapes Go.WideShapes Go.ChangeAt Go.RowKit
set_option maxRecDepth 100000
set_option linter.unusedSimpArgs false
set_option linter.unusedVariables false
/-- All blocks but the own one are as they were. -/
def Oth (v : Value) (u u' : World) : Prop := ∀ b, some b ≠ v.ownBlock → b < u.heap.size → u'.heap[b]? = u.heap[b]?
theorem Oth.trans {v : Value} {u u1 u2 : World} (h1 : Oth v u u1) (h2 : Oth v u1 u2) (hs : u.heap.size ≤ u1.heap.size) : Oth v u u2 := fun b hb hl => by rw [h2 b hb (by omega), h1 b hb hl]
theorem arr_at {B T : Nat} {u : World} {e s n : Nat} {v : Value} (h : Arr B T u e s v n) (hn : 0 < n) : ∃ g cap cur, v = .slice (some ⟨g, 0, none⟩) n cap ∧ B ≤ g ∧ g < T ∧ u.heap[g]? = some (Obj.cells cur e (0, 0)) ∧ n * s ≤ cur.size := by
  obtain ⟨xs, hr, ht⟩ := h
  rcases hr.2 with ⟨h1, h2⟩ | ⟨g, cap, cur, rfl, h2, h3, h4, h5, h6, h7⟩
  · omega
  · exact ⟨g, cap, cur, rfl, h2, ht g rfl, h3, by rw [h6]; exact Nat.mul_le_mul_right _ h4⟩
theorem arr_slice {B T : Nat} {u : World} {e s n : Nat} {v : Value} (h : Arr B T u e s v n) : ∃ ao cap, v = .slice ao n cap := row_slice h.choose_spec.1
theorem cell_in {u : World} {g j : Nat} {cur : Array Value} {e : TypeId} (h : u.heap[g]? = some (Obj.cells cur e (0, 0))) (hj : j < cur.size) : (∃ y, u.cell? ⟨g, j, none⟩ = some y) ∧ u.frozen? ⟨g, j, none⟩ = false := by
  refine ⟨⟨cur[j], ?_⟩, by simp [World.frozen?, h]⟩
  simp [World.cell?, h, hj]
theorem oth_set {v : Value} {u : World} {g j n cap : Nat} (hv : v = .slice (some ⟨g, 0, none⟩) n cap) (x : Value) : Oth v u (u.setCell ⟨g, j, none⟩ x) := fun b hb _ => heap_setCell_other _ _ _ _ (fun e => hb (by subst hv; simp only [Value.ownBlock]; simp at e; rw [e]))
theorem oth_last {v : Value} {w u : World} {g j : Nat} {x : Value} (h : Oth v w u) (hg : v.ownBlock = some g ∨ w.heap.size ≤ g) : Oth v w (u.setCell ⟨g, j, none⟩ x) := fun b hb hl => by
  rw [heap_setCell_other _ _ _ _ (fun e => by
    simp at e
    rcases hg with h1 | h1
    · exact hb (by rw [h1, e])
    · omega)]
  exact h b hb hl
theorem own_or {B T : Nat} {u w : World} {e s n g : Nat} {v : Value} (h : Arr B T u e s v n) (hg : v.ownBlock = some g ∨ u.heap.size ≤ g) (hw : w.heap.size ≤ u.heap.size) : g < T ∨ w.heap.size ≤ g := by
  rcases hg with h1 | h1
  · obtain ⟨xs, _, ht⟩ := h
    exact .inl (ht g h1)
  · exact .inr (by omega)
set_option maxHeartbeats 2000000 in
theorem own_scribble (v : Value) (n B T : Nat) (w : World) (h : Arr B T w 3 1 v n) (hB : B ≤ w.heap.size) (hz : n ≤ 17592186043904) :
    Calls Try.prog 14 #[v] w fun e w' => e = .returned (.tuple #[]) ∧ Sc B T w w' ∧ Oth v w w' := by
  obtain ⟨i0, hi, hz0, hz1, hz2⟩ := info_parts Try.infoIntC
  obtain ⟨po, pc, rfl⟩ := arr_slice h
  have HA : Hid (Arr B T w 3 1 (.slice po n pc) n) := h
  clear h
  go_enter Try.func14, Try.ntmps14
  go_wp2_with fail
  go_loopw [2] (fun i wr => ∃ k : Nat, k ≤ n ∧ i = .int .i64 k ∧ Hid (Sc B T w wr) ∧ Hid (Oth (.slice po n pc) w wr)) (fun i _ => n - (intOf i).toNat)
  case atStart => exact ⟨0, Nat.zero_le _, rfl, Sc.refl _ _ _, fun _ _ _ => rfl⟩
  case round =>
    obtain ⟨k, hk, rfl, HS, HO⟩ := hrel
    by_cases hlt : k < n
    · obtain ⟨g, cap, cur, hv, hBg, hgT, hg, hsz⟩ := arr_at (HA.out.sc HS.out) (by omega)
      injection hv with hv1 hv2 hv3
      subst hv1
      obtain ⟨⟨y, cy⟩, fy⟩ := cell_in (j := k) hg (by omega)
      have HS2 : Hid (Sc B T w (wr.setCell ⟨g, k, none⟩ (.int .i64 (-99)))) := HS.out.trans (Sc.set hBg (.inl hgT) hg _)
      have HO2 : Hid (Oth (.slice (some ⟨g, 0, none⟩) n pc) w (wr.setCell ⟨g, k, none⟩ (.int .i64 (-99)))) := HO.out.trans (oth_set rfl _) HS.out.bel.size
      have hlt2 : (k : Int) < (n : Int) := by omega
      clear hg hsz hv2 hv3
      go_wp2_with fail
      go_roundw
      case rel => exact ⟨k + 1, by omega, by go_num, HS2.out, HO2.out⟩
      case measure => simp [intOf]; omega
    · have hlt2 : ¬ (k : Int) < (n : Int) := by omega
      have hA1 : ∀ o, Arr B T (wr.alloc o) 3 1 (.slice po n pc) n := fun o => (HA.out.sc HS.out).sc (Sc.alloc (Nat.le_trans hB HS.out.bel.size) o)
      have HA1 : Hid _ := hA1
      have HSZ : Hid (B ≤ wr.heap.size) := Nat.le_trans hB HS.out.bel.size
      have HO1 : Hid (∀ o, Oth (.slice po n pc) w (wr.alloc o)) := fun o => HO.out.trans (fun b _ hl => ((Below.refl wr.heap.size wr).alloc (Nat.le_refl _) o).block b hl) HS.out.bel.size
      have HS1 : Hid (∀ o, Sc B T w (wr.alloc o)) := fun o => HS.out.trans (Sc.alloc HSZ.out o)
      clear hA1
      go_wp2_with (at_builtin; refine app2 rfl _ _ 23 rfl B T 3 i0 (.int .i64 0) 1 8 Try.underlying23 hi hz0 hz1 hz2 rfl (by decide) _ n rfl (HA1.out _) ⟨wr.heap.size, 0, none⟩ 3 3 [.int .i64 (-99), .int .i64 (-99), .int .i64 (-99)] rfl rfl (three_new _ _ _ _) (fun y hy => by simp at hy; subst hy; rfl) (by decide) (by unfold maxLen; omega) (by omega) (by have := HSZ.out; simp; omega) ?_; intro g cap cur w3 hg3 hc3 hs3 hB3 hT3 ho3; obtain ⟨⟨y3, cy3⟩, fy3⟩ := cell_in (j := 0) hg3 (by omega); have HS3 : Hid (Sc B T w (w3.setCell ⟨g, 0, none⟩ (.int .i64 (-98)))) := ((HS1.out _).trans hs3).last hB3 (own_or (HA1.out (.cells #[.int .i64 (-99), .int .i64 (-99), .int .i64 (-99)] 3)) hT3 (by have := (HS1.out (.cells #[.int .i64 (-99), .int .i64 (-99), .int .i64 (-99)] 3)).bel.size; exact this)) hg3 _; have HO3 : Hid (Oth (.slice po n pc) w (w3.setCell ⟨g, 0, none⟩ (.int .i64 (-98)))) := oth_last ((HO1.out _).trans ho3 (by have := (HS1.out (.cells #[.int .i64 (-99), .int .i64 (-99), .int .i64 (-99)] 3)).bel.size; exact this)) (hT3.imp id (fun h => Nat.le_trans (HS1.out (.cells #[.int .i64 (-99), .int .i64 (-99), .int .i64 (-99)] 3)).bel.size h)); clear hg3 hs3 ho3)
      go_end0
      exact ⟨rfl, HS3.out, HO3.out⟩
/-- Calls of one's own, below T. -/
structure COwn (B T : Nat) (w : World) (v : Value) (ms : List Ce) : Prop where
  row : w.ownsRow B 25 3 v ms.length (ccells ms)
  low : ∀ g, v.ownBlock = some g → g < T
  lies : ∀ e ∈ ms, Arr B T w 3 1 e.L e.x.args.length
theorem COwn.of {B : Nat} {w : World} {v : Value} {ms : List Ce} {cs : List Cc} (h : CRow B w v ms cs) : COwn B w.heap.size w v ms :=
  ⟨h.row, fun g hg => (h.row.lt g hg).2, fun e he => ⟨_, h.lies e he, fun g hg => (World.ownsRow.lt (h.lies e he) g hg).2⟩⟩
theorem COwn.below {B T : Nat} {w w' : World} {v : Value} {ms : List Ce} (h : COwn B T w v ms) (hb : Below w.heap.size w w') : COwn B T w' v ms :=
  ⟨row_below h.row hb, h.low, fun e he => by obtain ⟨xs, h1, h2⟩ := h.lies e he; exact ⟨xs, row_below h1 hb, h2⟩⟩
theorem lits_new (w : World) (a b c d e f : Value) : ∀ (j : Nat) u, [a, b, c, d, e, f][j]? = some u → (w.alloc (.cells #[a, b, c, d, e, f] 25)).cell? ((⟨w.heap.size, 0, none⟩ : Addr).add j) = some u := by
  intro j u hu
  have h : (w.alloc (.cells #[a, b, c, d, e, f] 25)).heap[w.heap.size]? = some (.cells #[a, b, c, d, e, f] 25 (0, 0)) := by
    show (w.heap.push _)[w.heap.size]? = some _
    exact Array.getElem?_push_size
  rw [add_plain, Nat.zero_add]
  generalize w.alloc (.cells #[a, b, c, d, e, f] 25) = W at h ⊢
  simp only [World.cell?, h]
  rw [← hu]
  match j with
  | 0 => rfl
  | 1 => rfl
  | 2 => rfl
  | 3 => rfl
  | 4 => rfl
  | 5 => rfl
  | j + 6 => simp
theorem six_one : ∀ u ∈ [Value.int .i64 (-99), .int .i64 0, .slice none 0 0, .int .i64 (-99), .int .i64 0, .slice none 0 0], u.oneCell' = true := by
  intro u hu
  simp only [List.mem_cons, List.not_mem_nil, or_false] at hu
  rcases hu with rfl | rfl | rfl | rfl | rfl | rfl <;> rfl
set_option maxHeartbeats 3000000 in
theorem own_scribbleCalls (v : Value) (ms : List Ce) (B T : Nat) (w : World) (h : COwn B T w v ms) (hB : B ≤ w.heap.size) (hz : ms.length ≤ 3518437208870) (ha : ∀ e ∈ ms, e.x.args.length ≤ 17592186043904) :
    Calls Try.prog 13 #[v] w fun e w' => e = .returned (.tuple #[]) ∧ Sc B T w w' := by
  obtain ⟨i0, hi, hz0, hz1, hz2⟩ := info_parts Try.infoCallC
  obtain ⟨po, pc, hpv⟩ := row_slice h.row
  subst hpv
  have HC : Hid (COwn B T w (.slice po ms.length pc) ms) := h
  have HAG : Hid (∀ e ∈ ms, e.x.args.length ≤ 17592186043904) := ha
  have HAR : Hid (Arr B T w 25 3 (.slice po ms.length pc) ms.length) := ⟨_, h.row, h.low⟩
  clear h ha
  go_enter Try.func13, Try.ntmps13
  go_wp2_with fail
  go_loopw [2] (fun i wr => ∃ k : Nat, k ≤ ms.length ∧ i = .int .i64 k ∧ Hid (Sc B T w wr) ∧ Hid (∃ xs, wr.ownsRow B 25 3 (.slice po ms.length pc) ms.length xs ∧ ∀ (j : Nat) e, ms[j]? = some e → xs[j * 3 + 2]? = some e.L)) (fun i _ => ms.length - (intOf i).toNat)
  case atStart => exact ⟨0, Nat.zero_le _, rfl, Sc.refl _ _ _, _, HC.out.row, fun j e he => by rw [ccells_get ms j 2 e (by decide) he]; rfl⟩
  case round =>
    obtain ⟨k, hk, rfl, HS, HX⟩ := hrel
    by_cases hlt : k < ms.length
    · obtain ⟨xs, hr, hxs⟩ := HX.out
      obtain ⟨g, hg⟩ : ∃ g, po = some ⟨g, 0, none⟩ := by
        rcases hr.2 with ⟨h0, h1⟩ | ⟨g, cap', cur, h1, _⟩
        · omega
        · injection h1 with h2; exact ⟨g, h2⟩
      subst hg
      obtain ⟨e, he⟩ : ∃ e, ms[k]? = some e := ⟨_, List.getElem?_eq_getElem hlt⟩
      have hmem := List.mem_of_getElem? he
      have hae := HC.out.lies e hmem
      obtain ⟨lo, lc, hL⟩ := arr_slice hae
      have c2 : wr.cell? ⟨g, k * 3 + 2, none⟩ = some e.L := by rw [hr.cellAt (k * 3 + 2) (by omega)]; exact hxs k e he
      have HSB : Hid (Calls Try.prog 14 #[e.L] wr fun r w' => r = .returned (.tuple #[]) ∧ Sc B T wr w' ∧ Oth e.L wr w') := own_scribble e.L e.x.args.length B T wr (hae.sc HS.out) (Nat.le_trans hB HS.out.bel.size) (HAG.out e hmem)
      have HNB : Hid (some g ≠ e.L.ownBlock) := fun hq => by
        obtain ⟨ys, h5, _⟩ := hae.sc HS.out
        obtain ⟨cs1, z1, h6⟩ := row_typed h5 g hq.symm
        obtain ⟨cs2, z2, h7⟩ := row_typed hr g rfl
        rw [h6] at h7
        simp at h7
      have HRO : Hid (wr.ownsRow B 25 3 (.slice (some ⟨g, 0, none⟩) ms.length pc) ms.length xs) := hr
      have HXS : Hid (∀ (j : Nat) e, ms[j]? = some e → xs[j * 3 + 2]? = some e.L) := hxs
      have hlt2 : (k : Int) < (ms.length : Int) := by omega
      rw [hL] at c2 HSB
      clear hr hxs he hmem hae
      go_wp2_with fail
      refine Calls.mono HSB.out ?_
      rintro r u1 ⟨rfl, s1, o1⟩
      rw [← hL] at o1
      have hr1 : u1.ownsRow B 25 3 (.slice (some ⟨g, 0, none⟩) ms.length pc) ms.length xs := row_at HRO.out (fun b cs z hb hv => by
        have hbg : g = b := by simpa [Value.ownBlock] using hv
        subst hbg
        exact o1 g HNB.out (Array.getElem?_eq_some_iff.1 hb).1)
      obtain ⟨r2, _⟩ := hr1.stored (k * 3) (.int .i64 (-99))
      have HR2 : Hid (∃ ys, (u1.setCell ⟨g, k * 3, none⟩ (.int .i64 (-99))).ownsRow B 25 3 (.slice (some ⟨g, 0, none⟩) ms.length pc) ms.length ys ∧ ∀ (j : Nat) e, ms[j]? = some e → ys[j * 3 + 2]? = some e.L) := ⟨_, r2, fun j e he => by rw [List.getElem?_set_ne (by omega)]; exact HXS.out j e he⟩
      obtain ⟨c1, z1, h7⟩ := row_typed hr1 g rfl
      obtain ⟨g', cap', cur', hv', hB', hT', hg', hsz'⟩ := arr_at (T := T) ⟨xs, hr1, HC.out.low⟩ (by omega)
      injection hv' with hv1 hv2 hv3
      injection hv1 with hv4
      injection hv4 with hv5
      subst hv5
      obtain ⟨⟨y, cy⟩, fy⟩ := cell_in (j := k * 3) hg' (by omega)
      have HS2 : Hid (Sc B T w (u1.setCell ⟨g, k * 3, none⟩ (.int .i64 (-99)))) := (HS.out.trans s1).last hB' (.inl hT') hg' _
      clear hr1 r2 h7 hg' hsz' s1 o1 hv2 hv3
      go_wp2_with fail
      go_roundw
      case rel => exact ⟨k + 1, by omega, by go_num, HS2.out, HR2.out⟩
      case measure => simp [intOf]; omega
    · have hlt2 : ¬ (k : Int) < (ms.length : Int) := by omega
      have HSZ : Hid (B ≤ wr.heap.size) := Nat.le_trans hB HS.out.bel.size
      have HA1 : Hid (∀ o, Arr B T (wr.alloc o) 25 3 (.slice po ms.length pc) ms.length) := fun o => (HAR.out.sc HS.out).sc (Sc.alloc HSZ.out o)
      have HS1 : Hid (∀ o, Sc B T w (wr.alloc o)) := fun o => HS.out.trans (Sc.alloc HSZ.out o)
      go_wp2_with (at_builtin; refine app2 rfl _ _ 22 rfl B T 25 i0 (.agg #[.int .i64 0, .int .i64 0, .slice none 0 0]) 3 40 Try.underlying22 hi hz0 hz1 hz2 rfl (by decide) _ ms.length rfl (HA1.out _) ⟨wr.heap.size, 0, none⟩ 2 2 [.int .i64 (-99), .int .i64 0, .slice none 0 0, .int .i64 (-99), .int .i64 0, .slice none 0 0] rfl rfl (lits_new _ _ _ _ _ _ _) six_one (by decide) (by unfold maxLen; omega) (by omega) (by have := HSZ.out; simp; omega) ?_; intro g cap cur w3 hg3 hc3 hs3 hB3 hT3 ho3; obtain ⟨⟨y3, cy3⟩, fy3⟩ := cell_in (j := 1) hg3 (by omega); have HS3 : Hid (Sc B T w (w3.setCell ⟨g, 1, none⟩ (.int .i64 (-98)))) := ((HS1.out _).trans hs3).last hB3 (own_or (HA1.out (.cells #[.int .i64 (-99), .int .i64 0, .slice none 0 0, .int .i64 (-99), .int .i64 0, .slice none 0 0] 25)) hT3 (by have := (HS1.out (.cells #[.int .i64 (-99), .int .i64 0, .slice none 0 0, .int .i64 (-99), .int .i64 0, .slice none 0 0] 25)).bel.size; exact this)) hg3 _; clear hg3 hs3 ho3)
      go_end0
      exact ⟨rfl, HS3.out⟩
end Go.Proofs.Ytiaoidbhdkldlab
