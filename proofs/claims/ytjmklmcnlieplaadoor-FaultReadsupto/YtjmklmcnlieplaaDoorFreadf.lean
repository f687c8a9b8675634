/- What panicroadref.ReadFault answers. -/
import Derived.Test.YtjmklmcnlieplaaDoorFins2
import Derived.Test.YtjmklmcnlieplaaDoorFref
namespace Go.Proofs.YtjmklmcnlieplaaDoor
open Go.ChangeShapes Go.WideShapes Go.ChangeAt Go.RowKit
set_option maxRecDepth 100000
set_option linter.unusedSimpArgs false
set_option linter.unusedVariables false
theorem two_new (w : World) (a b : Value) : ∀ (j : Nat) u, [a, b][j]? = some u → (w.alloc (.cells #[a, b] 3)).cell? ((⟨w.heap.size, 0, none⟩ : Addr).add j) = some u := by
  intro j u hu
  have h : (w.alloc (.cells #[a, b] 3)).heap[w.heap.size]? = some (.cells #[a, b] 3 (0, 0)) := by
    show (w.heap.push _)[w.heap.size]? = some _
    exact Array.getElem?_push_size
  rw [add_plain, Nat.zero_add]
  generalize w.alloc (.cells #[a, b] 3) = W at h ⊢
  simp only [World.cell?, h]
  rw [← hu]
  match j with
  | 0 => rfl
  | 1 => rfl
  | j + 2 => simp
/-- The order of the tries. -/
def ordF : Nat → Nat
  | 0 => 0
  | 1 => 1
  | 2 => 2
  | 3 => 3
  | 4 => 7
  | 5 => 9
  | 6 => 8
  | 7 => 4
  | 8 => 5
  | 9 => 6
  | _ => 10
def tryF (k : Nat) (a b : Int) : Fl := meantF (ordF k) a b
theorem ord_lt {k : Nat} (h : k < 10) : ordF k < 10 := by rcases ten k h with rfl | rfl | rfl | rfl | rfl | rfl | rfl | rfl | rfl | rfl <;> decide
theorem try_in {k : Nat} (h : k < 10) {a b : Int} (ha : I64 a) (hb : I64 b) : FIn (tryF k a b) := meant_in _ (ord_lt h) ha hb
def triesC (a b : Int) : Array Value := #[.int .i64 1, .int .i64 a, .int .i64 b, .int .i64 0, .int .i64 2, .int .i64 0, .int .i64 0, .int .i64 0, .int .i64 3, .int .i64 0, .int .i64 0, .int .i64 0, .int .i64 4, .int .i64 0, .int .i64 0, .int .i64 0, .int .i64 6, .int .i64 0, .int .i64 0, .int .i64 0, .int .i64 8, .int .i64 0, .int .i64 0, .int .i64 0, .int .i64 7, .int .i64 a, .int .i64 b, .int .i64 0, .int .i64 5, .int .i64 0, .int .i64 a, .int .i64 b, .int .i64 5, .int .i64 a, .int .i64 b, .int .i64 b, .int .i64 5, .int .i64 a, .int .i64 0, .int .i64 0]
theorem tries_at (k : Nat) (h : k < 10) (a b : Int) : (triesC a b)[k * 4]? = some (.int .i64 (tryF k a b).k) ∧ (triesC a b)[k * 4 + 1]? = some (.int .i64 (tryF k a b).a) ∧ (triesC a b)[k * 4 + 2]? = some (.int .i64 (tryF k a b).b) ∧ (triesC a b)[k * 4 + 3]? = some (.int .i64 (tryF k a b).c) := by
  rcases ten k h with rfl | rfl | rfl | rfl | rfl | rfl | rfl | rfl | rfl | rfl <;> exact ⟨rfl, rfl, rfl, rfl⟩
def isTries (a b : Int) : Value → World → Prop := fun v u => ∃ gt, v = .slice (some ⟨gt, 0, none⟩) 10 10 ∧ u.heap[gt]? = some (.cells (triesC a b) 23 (0, 0))
theorem stab_tries (a b : Int) : Stab (isTries a b) := fun v w w' hb ⟨gt, e, h⟩ => ⟨gt, e, by rw [hb.block _ (Array.getElem?_eq_some_iff.1 h).1]; exact h⟩
def numA (s : ByteArray) : Int := (ins s ++ [0, 0]).getD 0 0
def numB (s : ByteArray) : Int := (ins s ++ [0, 0]).getD 1 0
theorem nums_in (s : ByteArray) : I64 (numA s) ∧ I64 (numB s) := by
  have h : ∀ x ∈ ins s ++ [0, 0], I64 x := fun x hx => by
    rcases List.mem_append.1 hx with h | h
    · exact insF_in _ _ x h
    · simp at h; subst h; exact i64_0
  have hl : 2 ≤ (ins s ++ [0, 0]).length := by simp
  unfold numA numB
  rw [List.getD_eq_getElem?_getD, List.getD_eq_getElem?_getD, List.getElem?_eq_getElem (by omega), List.getElem?_eq_getElem (by omega)]
  exact ⟨h _ (List.getElem_mem _), h _ (List.getElem_mem _)⟩
def RefAs (s : ByteArray) (g : Fl) (ec : Int) : Prop :=
  (ec = 0 ∧ s ≠ ⟨#[]⟩ ∧ ∃ k, k < 10 ∧ g = tryF k (numA s) (numB s) ∧ textF g = s ∧ ∀ j, j < k → textF (tryF j (numA s) (numB s)) ≠ s) ∨
  (ec = 6 ∧ g = f0 ∧ (200 < s.size ∨ s = ⟨#[]⟩ ∨ ∀ k, k < 10 → textF (tryF k (numA s) (numB s)) ≠ s))
def RefPost (s : ByteArray) (w : World) (e : Ending) (w' : World) : Prop := ∃ g ec, e = .returned (.tuple #[fv g, .int .i64 ec]) ∧ RefAs s g ec ∧ Below w.heap.size w w'
set_option maxHeartbeats 16000000 in
theorem ref_readF (s : ByteArray) (hs : s.size ≤ 1048576) (w : World) : Calls Tryd.prog 8 #[.string s] w (RefPost s w) := by
  obtain ⟨i0, hi, hz0, hz1, hz2⟩ := info_parts Tryd.infoIntF
  have HIN : Hid (Calls Tryd.prog 15 #[.string s] (w.alloc (fbox f0)) fun e w' => ∃ v, e = .returned v ∧ w'.ownsRow (w.heap.size + 1) 3 1 v (ins s).length ((ins s).map (Value.int .i64)) ∧ Below (w.heap.size + 1) (w.alloc (fbox f0)) w' ∧ (ins s).length ≤ 1048577) := by
    have h := ref_inside s hs (w.alloc (fbox f0))
    have e : (w.alloc (fbox f0)).heap.size = w.heap.size + 1 := by simp
    rw [e] at h
    exact h
  have HTT : Hid (∀ k W, k < 10 → Calls Tryd.prog 6 #[.agg #[.int .i64 (tryF k (numA s) (numB s)).k, .int .i64 (tryF k (numA s) (numB s)).a, .int .i64 (tryF k (numA s) (numB s)).b, .int .i64 (tryF k (numA s) (numB s)).c]] W fun e w' => e = .returned (.string (textF (tryF k (numA s) (numB s)))) ∧ Below W.heap.size W w') := fun k W hk => ref_text _ (try_in hk (nums_in s).1 (nums_in s).2) W
  go_enter Tryd.func8, Tryd.ntmps8
  go_wp2_with fail
  refine Calls.mono HIN.out ?_
  rintro e u1 ⟨v, rfl, hown, b1, hlen⟩
  obtain ⟨ao, cap, rfl⟩ := row_sl hown
  have HY : Hid (u1.ownsRow (w.heap.size + 1) 3 1 (.slice ao (ins s).length cap) (ins s).length ((ins s).map (Value.int .i64))) := hown
  have HB1 : Hid (Below (w.heap.size + 1) (w.alloc (fbox f0)) u1) := b1
  have hs1 : w.heap.size + 1 ≤ u1.heap.size := by have := b1.size; simp at this; omega
  clear hown b1 HIN
  go_wp2_with (at_builtin; refine wpList_append_own _ rfl _ _ 41 rfl (w.heap.size + 1) 3 i0 (.int .i64 0) 1 8 Tryd.underlying41 hi hz0 hz1 hz2 rfl (by decide) _ _ _ rfl (World.ownsRow.alloc HY.out _) ⟨u1.heap.size, 0, none⟩ 2 2 [.int .i64 0, .int .i64 0] rfl rfl ?c1 ?c2 ?c3 ?c4 ?c5 ?_)
  case c1 => exact two_new _ _ _
  case c2 => intro y hy; simp at hy; subst hy; rfl
  case c3 => unfold maxLen; omega
  case c4 => omega
  case c5 => simp; omega
  intro v2 u2 hown2 hgrow2 _
  have HB2 : Hid (Below (w.heap.size + 1) (w.alloc (fbox f0)) u2) := (HB1.out.alloc hs1 _).grown hgrow2 (by simp; omega) (fun g hg => (HY.out.lt g hg).1)
  have hs2 : w.heap.size + 1 ≤ u2.heap.size := by have := HB2.out.size; simp at this; omega
  have HO2 : Hid (u2.ownsRow (w.heap.size + 1) 3 1 v2 (ins s ++ [0, 0]).length ((ins s ++ [0, 0]).map (Value.int .i64))) := by
    show World.ownsRow _ _ _ _ _ _ _
    rw [List.map_append, List.length_append]
    exact hown2
  clear hown2 hgrow2 HY HB1
  have hn2 : 2 ≤ (ins s ++ [0, 0]).length := by simp
  have HCE : Hid (∃ g cp, v2 = .slice (some ⟨g, 0, none⟩) (ins s ++ [0, 0]).length cp ∧ ∀ u, Below u2.heap.size u2 u → u.cell? ⟨g, 0, none⟩ = some (.int .i64 (numA s)) ∧ u.cell? ⟨g, 1, none⟩ = some (.int .i64 (numB s))) := by
    rcases HO2.out.2 with ⟨_, h0⟩ | ⟨g, cp, cur, hv, -⟩
    · omega
    · have ho := HO2.out
      subst hv
      have h0 := ho.cellAt 0 (by omega)
      have h1 := ho.cellAt 1 (by omega)
      refine ⟨g, cp, rfl, fun u hb => ?_⟩
      rw [List.getElem?_map] at h0
      rw [List.getElem?_map] at h1
      have e0 : (ins s ++ [0, 0])[0]? = some (numA s) := by unfold numA; rw [List.getD_eq_getElem?_getD, List.getElem?_eq_getElem (by omega)]; rfl
      have e1 : (ins s ++ [0, 0])[1]? = some (numB s) := by unfold numB; rw [List.getD_eq_getElem?_getD, List.getElem?_eq_getElem (by omega)]; rfl
      rw [e0] at h0
      rw [e1] at h1
      exact ⟨(hb.cell (World.block_lt_of_cell? _ _ h0)).trans h0, (hb.cell (World.block_lt_of_cell? _ _ h1)).trans h1⟩
  obtain ⟨g, cp, rfl, hcl⟩ := HCE.out
  have HCL : Hid (∀ u, Below u2.heap.size u2 u → u.cell? ⟨g, 0, none⟩ = some (.int .i64 (numA s)) ∧ u.cell? ⟨g, 1, none⟩ = some (.int .i64 (numB s))) := hcl
  clear HCE
  have HR2 : Hid (∀ u, Below u2.heap.size u2 u → u.heap[w.heap.size]? = some (fbox f0) ∧ Below w.heap.size w u) := fun u hb => ⟨by rw [hb.block _ (by omega), HB2.out.block _ (by omega)]; exact Array.getElem?_push_size, (((Below.refl _ _).alloc (Nat.le_refl _) (fbox f0)).trans (HB2.out.mono (by omega))).trans (hb.mono (by omega))⟩
  clear hcl HO2 HB2
  generalize (ins s ++ [0, 0]).length = n at *
  by_cases hbig : 200 < s.size
  · have hb2 : (200 : Int) < (s.size : Int) := by omega
    obtain ⟨⟨r0, r1, r2, r3⟩, q0, q1, q2, q3⟩ := fbox4 (HR2.out u2 (Below.refl _ _)).1
    have HB : Hid (Below w.heap.size w u2) := (HR2.out u2 (Below.refl _ _)).2
    have HA : Hid (RefAs s f0 6) := .inr ⟨rfl, rfl, .inl hbig⟩
    clear HTT
    go_wp2_with fail
    exact bodyPost_ret (v := .tuple #[fv f0, .int .i64 6]) (by simp [fv, f0, results, Tryd.results8, go_sem, hs2, r0, r1, r2, r3]) rfl ⟨f0, 6, rfl, HA.out, (((HB.out.setCell (Nat.le_refl _) _).setCell (Nat.le_refl _) _).setCell (Nat.le_refl _) _).setCell (Nat.le_refl _) _⟩
  have hb2 : ¬ (200 : Int) < (s.size : Int) := by omega
  have hb3 : decide ((200 : Int) < (s.size : Int)) = false := decide_eq_false hb2
  obtain ⟨a, ha⟩ : ∃ a, a = numA s := ⟨_, rfl⟩
  obtain ⟨b, hb⟩ : ∃ b, b = numB s := ⟨_, rfl⟩
  have HAB : Hid (a = numA s ∧ b = numB s) := ⟨ha, hb⟩
  rw [← ha, ← hb] at HCL HTT
  clear ha hb
  go_wp2_with fail
  refine wp_grow [isV (.slice (some ⟨g, 0, none⟩) n cp), isV (.pointer (some ⟨g, 0, none⟩)), isV (.int .i64 a), isV (.slice (some ⟨g, 0, none⟩) n cp), isV (.pointer (some ⟨g, 1, none⟩)), isV (.int .i64 b), isV (.agg #[.int .i64 1, .int .i64 a, .int .i64 b, .int .i64 0]), isV (.agg #[.int .i64 2, .int .i64 0, .int .i64 0, .int .i64 0]), isV (.agg #[.int .i64 3, .int .i64 0, .int .i64 0, .int .i64 0]), isV (.agg #[.int .i64 4, .int .i64 0, .int .i64 0, .int .i64 0]), isV (.agg #[.int .i64 6, .int .i64 0, .int .i64 0, .int .i64 0]), isV (.agg #[.int .i64 8, .int .i64 0, .int .i64 0, .int .i64 0]), isV (.slice (some ⟨g, 0, none⟩) n cp), isV (.pointer (some ⟨g, 0, none⟩)), isV (.int .i64 a), isV (.slice (some ⟨g, 0, none⟩) n cp), isV (.pointer (some ⟨g, 1, none⟩)), isV (.int .i64 b), isV (.agg #[.int .i64 7, .int .i64 a, .int .i64 b, .int .i64 0]), isV (.slice (some ⟨g, 0, none⟩) n cp), isV (.pointer (some ⟨g, 0, none⟩)), isV (.int .i64 a), isV (.slice (some ⟨g, 0, none⟩) n cp), isV (.pointer (some ⟨g, 1, none⟩)), isV (.int .i64 b), isV (.agg #[.int .i64 5, .int .i64 0, .int .i64 a, .int .i64 b]), isV (.slice (some ⟨g, 0, none⟩) n cp), isV (.pointer (some ⟨g, 0, none⟩)), isV (.int .i64 a), isV (.slice (some ⟨g, 0, none⟩) n cp), isV (.pointer (some ⟨g, 1, none⟩)), isV (.int .i64 b), isV (.slice (some ⟨g, 0, none⟩) n cp), isV (.pointer (some ⟨g, 1, none⟩)), isV (.int .i64 b), isV (.agg #[.int .i64 5, .int .i64 a, .int .i64 b, .int .i64 b]), isV (.slice (some ⟨g, 0, none⟩) n cp), isV (.pointer (some ⟨g, 0, none⟩)), isV (.int .i64 a), isV (.agg #[.int .i64 5, .int .i64 a, .int .i64 0, .int .i64 0]), isTries a b, isTries a b]
    ⟨stab_is _, stab_is _, stab_is _, stab_is _, stab_is _, stab_is _, stab_is _, stab_is _, stab_is _, stab_is _, stab_is _, stab_is _, stab_is _, stab_is _, stab_is _, stab_is _, stab_is _, stab_is _, stab_is _, stab_is _, stab_is _, stab_is _, stab_is _, stab_is _, stab_is _, stab_is _, stab_is _, stab_is _, stab_is _, stab_is _, stab_is _, stab_is _, stab_is _, stab_is _, stab_is _, stab_is _, stab_is _, stab_is _, stab_is _, stab_is _, stab_tries a b, stab_tries a b, trivial⟩ (by kernel_rfl) (by kernel_rfl) (by kernel_rfl) ?_ ?_
  · refine stepsOK_cons (fun f u hG hd K hK => ?_) (stepsOK_cons (fun f u hG hd K hK => ?_) (stepsOK_cons (fun f u hG hd K hK => ?_) (stepsOK_cons (fun f u hG hd K hK => ?_) (stepsOK_cons (fun f u hG hd K hK => ?_) (stepsOK_cons (fun f u hG hd K hK => ?_) (stepsOK_cons (fun f u hG hd K hK => ?_) (stepsOK_cons (fun f u hG hd K hK => ?_) (stepsOK_cons (fun f u hG hd K hK => ?_) (stepsOK_cons (fun f u hG hd K hK => ?_) (stepsOK_cons (fun f u hG hd K hK => ?_) (stepsOK_cons (fun f u hG hd K hK => ?_) (stepsOK_cons (fun f u hG hd K hK => ?_) (stepsOK_cons (fun f u hG hd K hK => ?_) (stepsOK_cons (fun f u hG hd K hK => ?_) (stepsOK_cons (fun f u hG hd K hK => ?_) (stepsOK_cons (fun f u hG hd K hK => ?_) (stepsOK_cons (fun f u hG hd K hK => ?_) (stepsOK_cons (fun f u hG hd K hK => ?_) (stepsOK_cons (fun f u hG hd K hK => ?_) (stepsOK_cons (fun f u hG hd K hK => ?_) (stepsOK_cons (fun f u hG hd K hK => ?_) (stepsOK_cons (fun f u hG hd K hK => ?_) (stepsOK_cons (fun f u hG hd K hK => ?_) (stepsOK_cons (fun f u hG hd K hK => ?_) (stepsOK_cons (fun f u hG hd K hK => ?_) (stepsOK_cons (fun f u hG hd K hK => ?_) (stepsOK_cons (fun f u hG hd K hK => ?_) (stepsOK_cons (fun f u hG hd K hK => ?_) (stepsOK_cons (fun f u hG hd K hK => ?_) (stepsOK_cons (fun f u hG hd K hK => ?_) (stepsOK_cons (fun f u hG hd K hK => ?_) (stepsOK_cons (fun f u hG hd K hK => ?_) (stepsOK_cons (fun f u hG hd K hK => ?_) (stepsOK_cons (fun f u hG hd K hK => ?_) (stepsOK_cons (fun f u hG hd K hK => ?_) (stepsOK_cons (fun f u hG hd K hK => ?_) (stepsOK_cons (fun f u hG hd K hK => ?_) (stepsOK_cons (fun f u hG hd K hK => ?_) (stepsOK_cons (fun f u hG hd K hK => ?_) (stepsOK_cons (fun f u hG hd K hK => ?_) (stepsOK_cons (fun f u hG hd K hK => ?_) stepsOK_nil)))))))))))))))))))))))))))))))))))))))))
    · refine wanted_on rfl ?_
      simp only [putAll, Act.put, List.setIfInBounds_toArray, List.set_cons_zero, List.set_cons_succ] at hK ⊢
      go_simp
      exact hK _ _ _ rfl hG (Below.refl _ _) rfl
    · have e0 : f 0 = (.slice (some ⟨g, 0, none⟩) n cp) := hd 0 (by kernel_rfl)
      have hlt0 : 0 < n := by omega
      refine wanted_on rfl ?_
      simp only [putAll, Act.put, List.setIfInBounds_toArray, List.set_cons_zero, List.set_cons_succ, e0] at hK ⊢
      go_simp
      exact hK _ _ _ rfl hG (Below.refl _ _) rfl
    · have e1 : f 1 = (.pointer (some ⟨g, 0, none⟩)) := hd 1 (by kernel_rfl)
      have c0 := (HCL.out _ hG).1
      refine wanted_on rfl ?_
      simp only [putAll, Act.put, List.setIfInBounds_toArray, List.set_cons_zero, List.set_cons_succ, e1] at hK ⊢
      go_simp
      exact hK _ _ _ rfl hG (Below.refl _ _) rfl
    · refine wanted_on rfl ?_
      simp only [putAll, Act.put, List.setIfInBounds_toArray, List.set_cons_zero, List.set_cons_succ] at hK ⊢
      go_simp
      exact hK _ _ _ rfl hG (Below.refl _ _) rfl
    · have e3 : f 3 = (.slice (some ⟨g, 0, none⟩) n cp) := hd 3 (by kernel_rfl)
      have hlt1 : (1 : Int) < (n : Int) := by omega
      refine wanted_on rfl ?_
      simp only [putAll, Act.put, List.setIfInBounds_toArray, List.set_cons_zero, List.set_cons_succ, e3] at hK ⊢
      go_simp
      exact hK _ _ _ rfl hG (Below.refl _ _) rfl
    · have e4 : f 4 = (.pointer (some ⟨g, 1, none⟩)) := hd 4 (by kernel_rfl)
      have c1 := (HCL.out _ hG).2
      refine wanted_on rfl ?_
      simp only [putAll, Act.put, List.setIfInBounds_toArray, List.set_cons_zero, List.set_cons_succ, e4] at hK ⊢
      go_simp
      exact hK _ _ _ rfl hG (Below.refl _ _) rfl
    · have e2 : f 2 = (.int .i64 a) := hd 2 (by kernel_rfl)
      have e5 : f 5 = (.int .i64 b) := hd 5 (by kernel_rfl)
      refine wanted_on rfl ?_
      simp only [putAll, Act.put, List.setIfInBounds_toArray, List.set_cons_zero, List.set_cons_succ, e2, e5] at hK ⊢
      go_simp
      exact hK _ _ _ rfl hG (Below.refl _ _) rfl
    · refine wanted_on rfl ?_
      simp only [putAll, Act.put, List.setIfInBounds_toArray, List.set_cons_zero, List.set_cons_succ] at hK ⊢
      go_simp
      exact hK _ _ _ rfl hG (Below.refl _ _) rfl
    · refine wanted_on rfl ?_
      simp only [putAll, Act.put, List.setIfInBounds_toArray, List.set_cons_zero, List.set_cons_succ] at hK ⊢
      go_simp
      exact hK _ _ _ rfl hG (Below.refl _ _) rfl
    · refine wanted_on rfl ?_
      simp only [putAll, Act.put, List.setIfInBounds_toArray, List.set_cons_zero, List.set_cons_succ] at hK ⊢
      go_simp
      exact hK _ _ _ rfl hG (Below.refl _ _) rfl
    · refine wanted_on rfl ?_
      simp only [putAll, Act.put, List.setIfInBounds_toArray, List.set_cons_zero, List.set_cons_succ] at hK ⊢
      go_simp
      exact hK _ _ _ rfl hG (Below.refl _ _) rfl
    · refine wanted_on rfl ?_
      simp only [putAll, Act.put, List.setIfInBounds_toArray, List.set_cons_zero, List.set_cons_succ] at hK ⊢
      go_simp
      exact hK _ _ _ rfl hG (Below.refl _ _) rfl
    · refine wanted_on rfl ?_
      simp only [putAll, Act.put, List.setIfInBounds_toArray, List.set_cons_zero, List.set_cons_succ] at hK ⊢
      go_simp
      exact hK _ _ _ rfl hG (Below.refl _ _) rfl
    · have e12 : f 12 = (.slice (some ⟨g, 0, none⟩) n cp) := hd 12 (by kernel_rfl)
      have hlt0 : 0 < n := by omega
      refine wanted_on rfl ?_
      simp only [putAll, Act.put, List.setIfInBounds_toArray, List.set_cons_zero, List.set_cons_succ, e12] at hK ⊢
      go_simp
      exact hK _ _ _ rfl hG (Below.refl _ _) rfl
    · have e13 : f 13 = (.pointer (some ⟨g, 0, none⟩)) := hd 13 (by kernel_rfl)
      have c0 := (HCL.out _ hG).1
      refine wanted_on rfl ?_
      simp only [putAll, Act.put, List.setIfInBounds_toArray, List.set_cons_zero, List.set_cons_succ, e13] at hK ⊢
      go_simp
      exact hK _ _ _ rfl hG (Below.refl _ _) rfl
    · refine wanted_on rfl ?_
      simp only [putAll, Act.put, List.setIfInBounds_toArray, List.set_cons_zero, List.set_cons_succ] at hK ⊢
      go_simp
      exact hK _ _ _ rfl hG (Below.refl _ _) rfl
    · have e15 : f 15 = (.slice (some ⟨g, 0, none⟩) n cp) := hd 15 (by kernel_rfl)
      have hlt1 : (1 : Int) < (n : Int) := by omega
      refine wanted_on rfl ?_
      simp only [putAll, Act.put, List.setIfInBounds_toArray, List.set_cons_zero, List.set_cons_succ, e15] at hK ⊢
      go_simp
      exact hK _ _ _ rfl hG (Below.refl _ _) rfl
    · have e16 : f 16 = (.pointer (some ⟨g, 1, none⟩)) := hd 16 (by kernel_rfl)
      have c1 := (HCL.out _ hG).2
      refine wanted_on rfl ?_
      simp only [putAll, Act.put, List.setIfInBounds_toArray, List.set_cons_zero, List.set_cons_succ, e16] at hK ⊢
      go_simp
      exact hK _ _ _ rfl hG (Below.refl _ _) rfl
    · have e14 : f 14 = (.int .i64 a) := hd 14 (by kernel_rfl)
      have e17 : f 17 = (.int .i64 b) := hd 17 (by kernel_rfl)
      refine wanted_on rfl ?_
      simp only [putAll, Act.put, List.setIfInBounds_toArray, List.set_cons_zero, List.set_cons_succ, e14, e17] at hK ⊢
      go_simp
      exact hK _ _ _ rfl hG (Below.refl _ _) rfl
    · refine wanted_on rfl ?_
      simp only [putAll, Act.put, List.setIfInBounds_toArray, List.set_cons_zero, List.set_cons_succ] at hK ⊢
      go_simp
      exact hK _ _ _ rfl hG (Below.refl _ _) rfl
    · have e19 : f 19 = (.slice (some ⟨g, 0, none⟩) n cp) := hd 19 (by kernel_rfl)
      have hlt0 : 0 < n := by omega
      refine wanted_on rfl ?_
      simp only [putAll, Act.put, List.setIfInBounds_toArray, List.set_cons_zero, List.set_cons_succ, e19] at hK ⊢
      go_simp
      exact hK _ _ _ rfl hG (Below.refl _ _) rfl
    · have e20 : f 20 = (.pointer (some ⟨g, 0, none⟩)) := hd 20 (by kernel_rfl)
      have c0 := (HCL.out _ hG).1
      refine wanted_on rfl ?_
      simp only [putAll, Act.put, List.setIfInBounds_toArray, List.set_cons_zero, List.set_cons_succ, e20] at hK ⊢
      go_simp
      exact hK _ _ _ rfl hG (Below.refl _ _) rfl
    · refine wanted_on rfl ?_
      simp only [putAll, Act.put, List.setIfInBounds_toArray, List.set_cons_zero, List.set_cons_succ] at hK ⊢
      go_simp
      exact hK _ _ _ rfl hG (Below.refl _ _) rfl
    · have e22 : f 22 = (.slice (some ⟨g, 0, none⟩) n cp) := hd 22 (by kernel_rfl)
      have hlt1 : (1 : Int) < (n : Int) := by omega
      refine wanted_on rfl ?_
      simp only [putAll, Act.put, List.setIfInBounds_toArray, List.set_cons_zero, List.set_cons_succ, e22] at hK ⊢
      go_simp
      exact hK _ _ _ rfl hG (Below.refl _ _) rfl
    · have e23 : f 23 = (.pointer (some ⟨g, 1, none⟩)) := hd 23 (by kernel_rfl)
      have c1 := (HCL.out _ hG).2
      refine wanted_on rfl ?_
      simp only [putAll, Act.put, List.setIfInBounds_toArray, List.set_cons_zero, List.set_cons_succ, e23] at hK ⊢
      go_simp
      exact hK _ _ _ rfl hG (Below.refl _ _) rfl
    · have e21 : f 21 = (.int .i64 a) := hd 21 (by kernel_rfl)
      have e24 : f 24 = (.int .i64 b) := hd 24 (by kernel_rfl)
      refine wanted_on rfl ?_
      simp only [putAll, Act.put, List.setIfInBounds_toArray, List.set_cons_zero, List.set_cons_succ, e21, e24] at hK ⊢
      go_simp
      exact hK _ _ _ rfl hG (Below.refl _ _) rfl
    · refine wanted_on rfl ?_
      simp only [putAll, Act.put, List.setIfInBounds_toArray, List.set_cons_zero, List.set_cons_succ] at hK ⊢
      go_simp
      exact hK _ _ _ rfl hG (Below.refl _ _) rfl
    · have e26 : f 26 = (.slice (some ⟨g, 0, none⟩) n cp) := hd 26 (by kernel_rfl)
      have hlt0 : 0 < n := by omega
      refine wanted_on rfl ?_
      simp only [putAll, Act.put, List.setIfInBounds_toArray, List.set_cons_zero, List.set_cons_succ, e26] at hK ⊢
      go_simp
      exact hK _ _ _ rfl hG (Below.refl _ _) rfl
    · have e27 : f 27 = (.pointer (some ⟨g, 0, none⟩)) := hd 27 (by kernel_rfl)
      have c0 := (HCL.out _ hG).1
      refine wanted_on rfl ?_
      simp only [putAll, Act.put, List.setIfInBounds_toArray, List.set_cons_zero, List.set_cons_succ, e27] at hK ⊢
      go_simp
      exact hK _ _ _ rfl hG (Below.refl _ _) rfl
    · refine wanted_on rfl ?_
      simp only [putAll, Act.put, List.setIfInBounds_toArray, List.set_cons_zero, List.set_cons_succ] at hK ⊢
      go_simp
      exact hK _ _ _ rfl hG (Below.refl _ _) rfl
    · have e29 : f 29 = (.slice (some ⟨g, 0, none⟩) n cp) := hd 29 (by kernel_rfl)
      have hlt1 : (1 : Int) < (n : Int) := by omega
      refine wanted_on rfl ?_
      simp only [putAll, Act.put, List.setIfInBounds_toArray, List.set_cons_zero, List.set_cons_succ, e29] at hK ⊢
      go_simp
      exact hK _ _ _ rfl hG (Below.refl _ _) rfl
    · have e30 : f 30 = (.pointer (some ⟨g, 1, none⟩)) := hd 30 (by kernel_rfl)
      have c1 := (HCL.out _ hG).2
      refine wanted_on rfl ?_
      simp only [putAll, Act.put, List.setIfInBounds_toArray, List.set_cons_zero, List.set_cons_succ, e30] at hK ⊢
      go_simp
      exact hK _ _ _ rfl hG (Below.refl _ _) rfl
    · refine wanted_on rfl ?_
      simp only [putAll, Act.put, List.setIfInBounds_toArray, List.set_cons_zero, List.set_cons_succ] at hK ⊢
      go_simp
      exact hK _ _ _ rfl hG (Below.refl _ _) rfl
    · have e32 : f 32 = (.slice (some ⟨g, 0, none⟩) n cp) := hd 32 (by kernel_rfl)
      have hlt1 : (1 : Int) < (n : Int) := by omega
      refine wanted_on rfl ?_
      simp only [putAll, Act.put, List.setIfInBounds_toArray, List.set_cons_zero, List.set_cons_succ, e32] at hK ⊢
      go_simp
      exact hK _ _ _ rfl hG (Below.refl _ _) rfl
    · have e33 : f 33 = (.pointer (some ⟨g, 1, none⟩)) := hd 33 (by kernel_rfl)
      have c1 := (HCL.out _ hG).2
      refine wanted_on rfl ?_
      simp only [putAll, Act.put, List.setIfInBounds_toArray, List.set_cons_zero, List.set_cons_succ, e33] at hK ⊢
      go_simp
      exact hK _ _ _ rfl hG (Below.refl _ _) rfl
    · have e28 : f 28 = (.int .i64 a) := hd 28 (by kernel_rfl)
      have e31 : f 31 = (.int .i64 b) := hd 31 (by kernel_rfl)
      have e34 : f 34 = (.int .i64 b) := hd 34 (by kernel_rfl)
      refine wanted_on rfl ?_
      simp only [putAll, Act.put, List.setIfInBounds_toArray, List.set_cons_zero, List.set_cons_succ, e28, e31, e34] at hK ⊢
      go_simp
      exact hK _ _ _ rfl hG (Below.refl _ _) rfl
    · refine wanted_on rfl ?_
      simp only [putAll, Act.put, List.setIfInBounds_toArray, List.set_cons_zero, List.set_cons_succ] at hK ⊢
      go_simp
      exact hK _ _ _ rfl hG (Below.refl _ _) rfl
    · have e36 : f 36 = (.slice (some ⟨g, 0, none⟩) n cp) := hd 36 (by kernel_rfl)
      have hlt0 : 0 < n := by omega
      refine wanted_on rfl ?_
      simp only [putAll, Act.put, List.setIfInBounds_toArray, List.set_cons_zero, List.set_cons_succ, e36] at hK ⊢
      go_simp
      exact hK _ _ _ rfl hG (Below.refl _ _) rfl
    · have e37 : f 37 = (.pointer (some ⟨g, 0, none⟩)) := hd 37 (by kernel_rfl)
      have c0 := (HCL.out _ hG).1
      refine wanted_on rfl ?_
      simp only [putAll, Act.put, List.setIfInBounds_toArray, List.set_cons_zero, List.set_cons_succ, e37] at hK ⊢
      go_simp
      exact hK _ _ _ rfl hG (Below.refl _ _) rfl
    · have e38 : f 38 = (.int .i64 a) := hd 38 (by kernel_rfl)
      refine wanted_on rfl ?_
      simp only [putAll, Act.put, List.setIfInBounds_toArray, List.set_cons_zero, List.set_cons_succ, e38] at hK ⊢
      go_simp
      exact hK _ _ _ rfl hG (Below.refl _ _) rfl
    · have e6 : f 6 = (.agg #[.int .i64 1, .int .i64 a, .int .i64 b, .int .i64 0]) := hd 6 (by kernel_rfl)
      have e7 : f 7 = (.agg #[.int .i64 2, .int .i64 0, .int .i64 0, .int .i64 0]) := hd 7 (by kernel_rfl)
      have e8 : f 8 = (.agg #[.int .i64 3, .int .i64 0, .int .i64 0, .int .i64 0]) := hd 8 (by kernel_rfl)
      have e9 : f 9 = (.agg #[.int .i64 4, .int .i64 0, .int .i64 0, .int .i64 0]) := hd 9 (by kernel_rfl)
      have e10 : f 10 = (.agg #[.int .i64 6, .int .i64 0, .int .i64 0, .int .i64 0]) := hd 10 (by kernel_rfl)
      have e11 : f 11 = (.agg #[.int .i64 8, .int .i64 0, .int .i64 0, .int .i64 0]) := hd 11 (by kernel_rfl)
      have e18 : f 18 = (.agg #[.int .i64 7, .int .i64 a, .int .i64 b, .int .i64 0]) := hd 18 (by kernel_rfl)
      have e25 : f 25 = (.agg #[.int .i64 5, .int .i64 0, .int .i64 a, .int .i64 b]) := hd 25 (by kernel_rfl)
      have e35 : f 35 = (.agg #[.int .i64 5, .int .i64 a, .int .i64 b, .int .i64 b]) := hd 35 (by kernel_rfl)
      have e39 : f 39 = (.agg #[.int .i64 5, .int .i64 a, .int .i64 0, .int .i64 0]) := hd 39 (by kernel_rfl)
      refine wanted_on rfl ?_
      simp only [putAll, Act.put, List.setIfInBounds_toArray, List.set_cons_zero, List.set_cons_succ, e6, e7, e8, e9, e10, e11, e18, e25, e35, e39] at hK ⊢
      go_simp
      exact hK _ _ _ rfl (hG.alloc hG.size _) ((Below.refl _ _).alloc (Nat.le_refl _) _) ⟨u.heap.size, rfl, Array.getElem?_push_size⟩
    · obtain ⟨gt40, e40, ht40⟩ := hd 40 (by kernel_rfl)
      refine wanted_on rfl ?_
      simp only [putAll, Act.put, List.setIfInBounds_toArray, List.set_cons_zero, List.set_cons_succ, e40] at hK ⊢
      go_simp
      exact hK _ _ _ rfl hG (Below.refl _ _) ⟨gt40, rfl, ht40⟩
  · intro f u hG hf
    obtain ⟨gt, e41, htr⟩ : isTries a b (f 41) u := hf 41 (by decide)
    have HTR : Hid (u.heap[gt]? = some (.cells (triesC a b) 23 (0, 0)) ∧ u.heap[w.heap.size]? = some (fbox f0) ∧ Below w.heap.size w u) := ⟨htr, HR2.out u hG⟩
    simp only [putAll, Act.put, List.setIfInBounds_toArray, List.set_cons_zero, List.set_cons_succ, Nat.reduceAdd, e41]
    clear e41 hf hG htr HCL HR2
    go_wp2_with fail
    go_loopw [59] (fun iv wr => ∃ k : Nat, k ≤ 10 ∧ iv = .int .i64 k ∧ Hid ((s ≠ ⟨#[]⟩ → ∀ j, j < k → textF (tryF j a b) ≠ s) ∧ wr.heap[gt]? = some (.cells (triesC a b) 23 (0, 0)) ∧ wr.heap[w.heap.size]? = some (fbox f0) ∧ Below w.heap.size w wr)) (fun i _ => 10 - (intOf i).toNat)
    case atStart => exact ⟨0, Nat.zero_le _, rfl, fun _ j h => by omega, HTR.out⟩
    case round =>
      obtain ⟨k, hk, rfl, HQ⟩ := hrel
      have hsz : w.heap.size < wr.heap.size := (Array.getElem?_eq_some_iff.1 HQ.out.2.2.1).1
      have hgz : gt < wr.heap.size := (Array.getElem?_eq_some_iff.1 HQ.out.2.1).1
      by_cases hlt : k < 10
      · obtain ⟨t0, t1, t2, t3⟩ := tries_at k hlt a b
        have q0 : wr.cell? ⟨gt, k * 4, none⟩ = some (.int .i64 (tryF k a b).k) := by rw [Lib.cell_of_heap HQ.out.2.1]; exact t0
        have q1 : wr.cell? ⟨gt, k * 4 + 1, none⟩ = some (.int .i64 (tryF k a b).a) := by rw [Lib.cell_of_heap HQ.out.2.1]; exact t1
        have q2 : wr.cell? ⟨gt, k * 4 + 2, none⟩ = some (.int .i64 (tryF k a b).b) := by rw [Lib.cell_of_heap HQ.out.2.1]; exact t2
        have q3 : wr.cell? ⟨gt, k * 4 + 3, none⟩ = some (.int .i64 (tryF k a b).c) := by rw [Lib.cell_of_heap HQ.out.2.1]; exact t3
        have hlt2 : (k : Int) < 10 := by omega
        clear t0 t1 t2 t3
        obtain ⟨m, hm⟩ : ∃ m, m = tryF k a b := ⟨_, rfl⟩
        have HM : Hid (m = tryF k a b) := hm
        have HT2 : Hid (∀ W, Calls Tryd.prog 6 #[.agg #[.int .i64 m.k, .int .i64 m.a, .int .i64 m.b, .int .i64 m.c]] W fun e w' => e = .returned (.string (textF m)) ∧ Below W.heap.size W w') := fun W => hm ▸ HTT.out k W hlt
        rw [← hm] at q0 q1 q2 q3
        clear hm
        cases he0 : (s.toList == ([] : List UInt8)) with
        | true =>
          have hse : s = ⟨#[]⟩ := list_inj ((eq_of_beq he0).trans (show ([] : List UInt8) = (⟨#[]⟩ : ByteArray).toList by rw [ByteArray.toList_eq]))
          have HX : Hid (s ≠ ⟨#[]⟩ → ∀ j, j < k + 1 → textF (tryF j a b) ≠ s) := fun h => absurd hse h
          clear hse
          go_wp2_with fail
          go_roundw
          case rel => exact ⟨k + 1, by omega, by go_num, HX.out, (Below.heap_alloc _ _ _ hgz).trans HQ.out.2.1, (Below.heap_alloc _ _ _ hsz).trans HQ.out.2.2.1, HQ.out.2.2.2.alloc (by omega) _⟩
          case measure => simp [intOf]; omega
        | false =>
          have HSE : Hid (s ≠ ⟨#[]⟩) := fun h => by rw [h, ByteArray.toList_eq] at he0; cases he0
          go_wp2_with fail
          refine (HT2.out _).mono ?_
          rintro e wz ⟨rfl, b3⟩
          have hz3 : wr.heap.size + 1 ≤ wz.heap.size := by have := b3.size; simp at this; omega
          have HB3 : Hid (Below w.heap.size w wz) := HQ.out.2.2.2.trans ((below_up b3).mono (by omega))
          have HR3 : Hid (wz.heap[w.heap.size]? = some (fbox f0)) := ((below_up b3).block _ (by omega)).trans HQ.out.2.2.1
          have HG3 : Hid (wz.heap[gt]? = some (.cells (triesC a b) 23 (0, 0))) := ((below_up b3).block _ (by omega)).trans HQ.out.2.1
          have HX3 : Hid (wz.heap[wr.heap.size]? = some (fbox m)) := box_stays b3
          clear b3 q0 q1 q2 q3
          cases he : ((textF m).toList == s.toList) with
          | true =>
            obtain ⟨⟨d0, d1, d2, d3⟩, -⟩ := fbox4 HX3.out
            obtain ⟨⟨r0, r1, r2, r3⟩, p0, p1, p2, p3⟩ := fbox4 HR3.out
            have hz0 : w.heap.size < wz.heap.size := by omega
            have hz4 : w.heap.size ≠ wr.heap.size := by omega
            have HA : Hid (RefAs s m 0) := .inl ⟨rfl, HSE.out, k, hlt, by rw [← HAB.out.1, ← HAB.out.2]; exact HM.out, list_inj (eq_of_beq he), by rw [← HAB.out.1, ← HAB.out.2]; exact HQ.out.1 HSE.out⟩
            go_wp2_with fail
            exact bodyPost_ret (v := .tuple #[fv m, .int .i64 0]) (by simp [fv, results, Tryd.results8, go_sem, hz0, r0, r1, r2, r3]) rfl ⟨m, 0, rfl, HA.out, (((HB3.out.setCell (Nat.le_refl _) _).setCell (Nat.le_refl _) _).setCell (Nat.le_refl _) _).setCell (Nat.le_refl _) _⟩
          | false =>
            have HX : Hid (s ≠ ⟨#[]⟩ → ∀ j, j < k + 1 → textF (tryF j a b) ≠ s) := fun h0 j hj => by
              by_cases e : j = k
              · subst e; rw [← HM.out]; intro h; rw [h] at he; simp at he
              · exact HQ.out.1 h0 j (by omega)
            go_wp2_with fail
            go_roundw
            case rel => exact ⟨k + 1, by omega, by go_num, HX.out, HG3.out, HR3.out, HB3.out⟩
            case measure => simp [intOf]; omega
      · obtain rfl : k = 10 := by omega
        obtain ⟨⟨r0, r1, r2, r3⟩, q0, q1, q2, q3⟩ := fbox4 HQ.out.2.2.1
        have HB : Hid (Below w.heap.size w wr) := HQ.out.2.2.2
        have HA : Hid (RefAs s f0 6) := .inr ⟨rfl, rfl, .inr (by
          by_cases hse : s = ⟨#[]⟩
          · exact .inl hse
          · rw [← HAB.out.1, ← HAB.out.2]; exact .inr (HQ.out.1 hse))⟩
        go_wp2_with fail
        exact bodyPost_ret (v := .tuple #[fv f0, .int .i64 6]) (by simp [fv, f0, results, Tryd.results8, go_sem, hsz, r0, r1, r2, r3]) rfl ⟨f0, 6, rfl, HA.out, (((HB.out.setCell (Nat.le_refl _) _).setCell (Nat.le_refl _) _).setCell (Nat.le_refl _) _).setCell (Nat.le_refl _) _⟩
end Go.Proofs.YtjmklmcnlieplaaDoor
