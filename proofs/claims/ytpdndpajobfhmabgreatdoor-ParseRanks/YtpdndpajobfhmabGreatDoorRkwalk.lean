/- The law ParseRanks, walked. -/
import Derived.Test.YtpdndpajobfhmabGreatDoorRkpDefs
import Derived.Test.YtpdndpajobfhmabGreatDoorRksign
namespace Go.Proofs.YtpdndpajobfhmabGreatDoor
open Go.ChangeShapes Go.WideShapes Go.ChangeAt Go.RowKit
set_option maxRecDepth 100000
set_option linter.unusedSimpArgs false
set_option linter.unusedVariables false

/-- Two may come up. -/
theorem T_two {P : Program} {ops : Array Oper} {Q : Exit → Act → World → Prop} {md : Region.Mode} {S : World → Prop} {T : Nat → Bool} {i j : Nat} {oi oj : Oper} {f : Nat} {listed : Array Bool} {a : Act} {w : World} (hoi : ops[i]? = some oi) (hoj : ops[j]? = some oj) (hr : Region.ready md ops listed = [i, j])
    (h1 : ∀ K' : Act → World → Prop, (∀ a w, (T i = false → S w) → wpAnyT P md ops Q S T f (listed.setIfInBounds i true) a w → K' a w) → if Region.wanted oi (yielded ops a.tmps) = true then Oper.wp P oi a w K' Q else K' (a.put oi.dst undef) w)
    (h2 : ∀ K' : Act → World → Prop, (∀ a w, (T j = false → S w) → wpAnyT P md ops Q S T f (listed.setIfInBounds j true) a w → K' a w) → if Region.wanted oj (yielded ops a.tmps) = true then Oper.wp P oj a w K' Q else K' (a.put oj.dst undef) w) : wpAnyT P md ops Q S T (f + 1) listed a w := by
  refine ⟨fun h0 => (by rw [hr] at h0; cases h0), fun k hk => ?_⟩
  rw [hr] at hk
  have hk' : k = i ∨ k = j := by simpa using hk
  rcases hk' with rfl | rfl
  · exact wpOp_step hoi (fun K' hK => h1 K' (fun a w h1 h2 => hK a w ⟨h1, h2⟩))
  · exact wpOp_step hoj (fun K' hK => h2 K' (fun a w h1 h2 => hK a w ⟨h1, h2⟩))
/-- Five cells of a node. -/
def Five (w : World) (g o : Nat) (a b c d e : Value) : Prop := w.cell? ⟨g, o, none⟩ = some a ∧ w.cell? ⟨g, o + 1, none⟩ = some b ∧ w.cell? ⟨g, o + 2, none⟩ = some c ∧ w.cell? ⟨g, o + 3, none⟩ = some d ∧ w.cell? ⟨g, o + 4, none⟩ = some e
theorem Five.alloc {w : World} {g o : Nat} {a b c d e : Value} (h : Five w g o a b c d e) (x : Obj) : Five (w.alloc x) g o a b c d e := by
  have key : ∀ k v, w.cell? ⟨g, k, none⟩ = some v → (w.alloc x).cell? ⟨g, k, none⟩ = some v := fun k v hv => by
    have hlt := World.block_lt_of_cell? _ _ hv
    rw [((Below.refl w.heap.size w).alloc (Nat.le_refl _) x).cell (p := ⟨g, k, none⟩) hlt]; exact hv
  exact ⟨key _ _ h.1, key _ _ h.2.1, key _ _ h.2.2.1, key _ _ h.2.2.2.1, key _ _ h.2.2.2.2⟩
theorem two_new (W : World) (c d : Array Value) (t : Nat) : ((W.alloc (.cells c t)).alloc (.cells d t)).heap[W.heap.size]? = some (.cells c t (0, 0)) ∧ ((W.alloc (.cells c t)).alloc (.cells d t)).heap[W.heap.size + 1]? = some (.cells d t (0, 0)) := by
  constructor
  · rw [Lib.alloc_old _ _ W.heap.size (by simp)]; exact heap_alloc_new W _
  · have := heap_alloc_new (W.alloc (.cells c t)) (.cells d t)
    simpa using this
def put5 (W : World) (b : Nat) (v0 v1 v2 v3 v4 : Value) : World := ((((W.setCell ⟨b, 0, none⟩ v0).setCell ⟨b, 1, none⟩ v1).setCell ⟨b, 2, none⟩ v2).setCell ⟨b, 3, none⟩ v3).setCell ⟨b, 4, none⟩ v4
theorem put5_heap {W : World} {b t : Nat} {a0 a1 a2 a3 a4 : Value} (v0 v1 v2 v3 v4 : Value) (h : W.heap[b]? = some (.cells #[a0, a1, a2, a3, a4] t (0, 0))) : (put5 W b v0 v1 v2 v3 v4).heap[b]? = some (.cells #[v0, v1, v2, v3, v4] t (0, 0)) ∧ ∀ k, k ≠ b → (put5 W b v0 v1 v2 v3 v4).heap[k]? = W.heap[k]? := by
  refine ⟨by simp [put5, World.setCell, Array.getElem?_modify, h], fun k hk => ?_⟩
  unfold put5
  rw [Below.heap_setCell _ _ _ _ hk, Below.heap_setCell _ _ _ _ hk, Below.heap_setCell _ _ _ _ hk, Below.heap_setCell _ _ _ _ hk, Below.heap_setCell _ _ _ _ hk]
theorem put5_below {w W : World} {B b : Nat} (v0 v1 v2 v3 v4 : Value) (h : Below B w W) (hb : B ≤ b) : Below B w (put5 W b v0 v1 v2 v3 v4) :=
  ((((h.setCell (p := ⟨b, 0, none⟩) hb _).setCell (p := ⟨b, 1, none⟩) hb _).setCell (p := ⟨b, 2, none⟩) hb _).setCell (p := ⟨b, 3, none⟩) hb _).setCell (p := ⟨b, 4, none⟩) hb _
theorem Five.at {w w' : World} {g o : Nat} {a b c d e : Value} (h : Five w g o a b c d e) (hg : w'.heap[g]? = w.heap[g]?) : Five w' g o a b c d e := by
  have key : ∀ k v, w.cell? ⟨g, k, none⟩ = some v → w'.cell? ⟨g, k, none⟩ = some v := fun k v hv => by
    have : w'.cell? ⟨g, k, none⟩ = w.cell? ⟨g, k, none⟩ := by simp [World.cell?, hg]
    rw [this]; exact hv
  exact ⟨key _ _ h.1, key _ _ h.2.1, key _ _ h.2.2.1, key _ _ h.2.2.2.1, key _ _ h.2.2.2.2⟩
def rkSrc (i j : Nat) : ByteArray := ⟨(rkText (sgA.getD i []) (sgA.getD j [])).toArray⟩
theorem rkSrc_eq (i j : Nat) : (⟨#[102, 117, 110, 99, 32, 109, 97, 105, 110, 40, 41, 32, 123, 32, 120, 32, 58, 61, 32, 97, 32]⟩ : ByteArray) ++ sgB i ++ (⟨#[32, 98, 32]⟩ : ByteArray) ++ sgB j ++ (⟨#[32, 99, 32, 125]⟩ : ByteArray) = rkSrc i j := by
  apply ByteArray.ext
  simp [rkSrc, rkText, sgB, ByteArray.data_append]
theorem sgB_size (k : Nat) (hk : k < 16) : (sgB k).size ≤ 2 := by
  have hx : ∀ k, k < 16 → (sgA.getD k []).length ≤ 2 := by decide
  exact hx k hk
/-- A node of a sign, as the law reads it. -/
def NodeIn (w : World) (g k : Nat) (t : ByteArray) : Prop := ∃ ty nu ka kl kc, w.cell? ⟨g, k * 5, none⟩ = some (.int .i64 27) ∧ w.cell? ⟨g, k * 5 + 1, none⟩ = some (.string t) ∧ w.cell? ⟨g, k * 5 + 2, none⟩ = some (.string ty) ∧ w.cell? ⟨g, k * 5 + 3, none⟩ = some (.int .i64 nu) ∧ w.cell? ⟨g, k * 5 + 4, none⟩ = some (.slice ka kl kc)
theorem ba_of (b : ByteArray) (l : List UInt8) (h : (b.data.toList == l) = true) : b = ⟨l.toArray⟩ := by
  have h' : b.data.toList = l := by simpa using h
  cases b with | mk d => simp at h'; subst h'; simp
theorem row_slice {w : World} {B e size n : Nat} {v : Value} {xs : List Value} (h : w.ownsRow B e size v n xs) : ∃ a l c, v = .slice a l c := by
  rcases h.2 with ⟨hv, _⟩ | ⟨g, cap, cur, hv, _⟩
  · exact ⟨_, _, _, hv⟩
  · exact ⟨_, _, _, hv⟩
theorem ndIs_in {w : World} {B g cap : Nat} {tree : List Nd} (h : TreeIn w B (.slice (some ⟨g, 0, none⟩) tree.length cap) tree) (k : Nat) (s : List UInt8) (hn : ndIs tree k s = true) : NodeIn w g k ⟨s.toArray⟩ := by
  obtain ⟨kvs, h1, h2, h3⟩ := h
  unfold ndIs at hn
  split at hn
  · rename_i n hk
    simp only [Bool.and_eq_true] at hn
    obtain ⟨e1, e2⟩ := hn
    have e1' : n.kind = 27 := by simpa using e1
    have e2' := ba_of _ _ e2
    have hkl : k < tree.length := (List.getElem?_eq_some_iff.1 hk).1
    obtain ⟨kv, hkv⟩ : ∃ kv, kvs[k]? = some kv := ⟨_, List.getElem?_eq_getElem (by omega)⟩
    obtain ⟨ka, kl, kc, rfl⟩ := row_slice (h3 k n kv hk hkv)
    have hget : ∀ i, i < 5 → (ncells tree kvs)[k * 5 + i]? = (n.cells (.slice ka kl kc))[i]? := fun i hi => ncells_get tree kvs k i n _ hi hk hkv
    refine ⟨n.typ, n.num, ka, kl, kc, ?_, ?_, ?_, ?_, ?_⟩
    · rw [h2.cellAt (k * 5) (by omega), ← e1']; exact hget 0 (by decide)
    · rw [h2.cellAt (k * 5 + 1) (by omega), ← e2']; exact hget 1 (by decide)
    · rw [h2.cellAt (k * 5 + 2) (by omega)]; exact hget 2 (by decide)
    · rw [h2.cellAt (k * 5 + 3) (by omega)]; exact hget 3 (by decide)
    · rw [h2.cellAt (k * 5 + 4) (by omega)]; exact hget 4 (by decide)
  · cases hn
theorem own_rkparse (rk_all : ∀ a b, a < 16 → b < 16 → rkOk a b = true) (i j : Nat) (hi : i < 16) (hj : j < 16) (w : World) (hlib : Lib3 w) :
    Calls Tryz.prog 6 #[.string (rkSrc i j)] w fun e w' => Below w.heap.size w w' ∧ ∃ g cap, e = .returned (.tuple #[.slice (some ⟨g, 0, none⟩) 10 cap, .agg #[.int .i64 0, .int .i64 0, .int .i64 0]]) ∧
      (if rkRank (j + 1) > rkRank (i + 1) then NodeIn w' g 5 (sgB i) ∧ NodeIn w' g 4 (sgB j) ∧ (∃ t ty nu ka kl kc k0, w'.cell? ⟨g, 15, none⟩ = some (.int .i64 k0) ∧ w'.cell? ⟨g, 16, none⟩ = some (.string t) ∧ w'.cell? ⟨g, 17, none⟩ = some (.string ty) ∧ w'.cell? ⟨g, 18, none⟩ = some (.int .i64 nu) ∧ w'.cell? ⟨g, 19, none⟩ = some (.slice ka kl kc)) else NodeIn w' g 5 (sgB j) ∧ NodeIn w' g 3 (sgB i)) := by
  have h := rk_all i j hi hj
  unfold rkOk at h
  split at h
  · rename_i s hR
    simp only [Bool.and_eq_true, decide_eq_true_eq] at h
    obtain ⟨h1, h2, h3⟩ := h
    split at h3
    · rename_i r st hrun
      simp only [Bool.and_eq_true, beq_iff_eq] at h3
      obtain ⟨h4, h5⟩ := h3
      have hsz : (rkSrc i j).size ≤ maxLen := by
        have hx : ∀ k, k < 16 → (sgA.getD k []).length ≤ 2 := by decide
        have a1 := hx i hi
        have a2 := hx j hj
        show (rkText (sgA.getD i []) (sgA.getD j [])).toArray.size ≤ maxLen
        simp only [rkText, List.size_toArray, List.length_append, List.length_cons, List.length_nil, maxLen]
        omega
      refine (own_parse0 (rkSrc i j) w hsz hlib s hR h1 h2 40 r st hrun).mono ?_
      rintro e w' ⟨hb, tv, rfl, hT⟩
      have hT' := hT
      obtain ⟨kvs, hl, hrow, hkd⟩ := hT
      obtain ⟨g, cap, rfl⟩ : ∃ g cap, tv = .slice (some ⟨g, 0, none⟩) st.tree.length cap := by
        rcases hrow.2 with ⟨_, h0⟩ | ⟨g, cap, cur, hv, _⟩
        · omega
        · exact ⟨g, cap, hv⟩
      refine ⟨hb, g, cap, by rw [h4], ?_⟩
      split at h5
      · rename_i hr
        rw [if_pos hr]
        simp only [Bool.and_eq_true] at h5
        refine ⟨ndIs_in hT' 5 _ h5.1, ndIs_in hT' 4 _ h5.2, ?_⟩
        obtain ⟨n, hn⟩ : ∃ n, st.tree[3]? = some n := ⟨_, List.getElem?_eq_getElem (by omega)⟩
        obtain ⟨kv, hkv⟩ : ∃ kv, kvs[3]? = some kv := ⟨_, List.getElem?_eq_getElem (by omega)⟩
        obtain ⟨ka, kl, kc, rfl⟩ := row_slice (hkd 3 n kv hn hkv)
        have hget : ∀ i, i < 5 → (ncells st.tree kvs)[3 * 5 + i]? = (n.cells (.slice ka kl kc))[i]? := fun i hi => ncells_get st.tree kvs 3 i n _ hi hn hkv
        refine ⟨n.text, n.typ, n.num, ka, kl, kc, n.kind, ?_, ?_, ?_, ?_, ?_⟩
        · rw [hrow.cellAt 15 (by omega)]; exact hget 0 (by decide)
        · rw [hrow.cellAt 16 (by omega)]; exact hget 1 (by decide)
        · rw [hrow.cellAt 17 (by omega)]; exact hget 2 (by decide)
        · rw [hrow.cellAt 18 (by omega)]; exact hget 3 (by decide)
        · rw [hrow.cellAt 19 (by omega)]; exact hget 4 (by decide)
      · rename_i hr
        rw [if_neg hr]
        simp only [Bool.and_eq_true] at h5
        exact ⟨ndIs_in hT' 5 _ h5.1, ndIs_in hT' 3 _ h5.2⟩
    · cases h3
  · cases h
set_option maxHeartbeats 4000000 in
theorem own_ranks (rk_all : ∀ a b, a < 16 → b < 16 → rkOk a b = true) (a0 a1 : Int) (w : World) (hlib : Lib3 w) (ht : SignTab w) : Calls Tryz.prog 5 #[.int .i64 a0, .int .i64 a1] w fun e w' => e = .returned (.bool true) ∧ Below w.heap.size w w' := by
  have HS : Hid (∀ (v : Int), Calls Tryz.prog 11 #[.int .i64 v, .int .i64 16] w fun e w' => (∃ k : Nat, e = .returned (.int .i64 k) ∧ (k : Int) < 16) ∧ w' = w) := fun v => own_spot v 16 (by decide) w
  have HG : Hid (∀ k : Nat, k < 16 → Calls Tryz.prog 12 #[.int .i64 (1 + (k : Int))] w fun e w' => e = .returned (.tuple #[.string (sgB k), .int .i64 0]) ∧ w' = w) := fun k hk => own_sign k hk w ht
  have HP : Hid (∀ i j : Nat, i < 16 → j < 16 → _) := fun i j hi hj => own_rkparse rk_all i j hi hj w hlib
  clear hlib ht rk_all
  go_enter Tryz.func5, Tryz.ntmps5
  go_wp2_with fail
  refine (HS.out _).mono ?_
  rintro e w' ⟨⟨i, rfl, hi⟩, rfl⟩
  go_wp2_with fail
  refine (HS.out _).mono ?_
  rintro e w' ⟨⟨j, rfl, hj⟩, rfl⟩
  go_wp2_with fail
  refine (HG.out i (by omega)).mono ?_
  rintro e w' ⟨rfl, rfl⟩
  go_wp2_with fail
  refine (HG.out j (by omega)).mono ?_
  rintro e w' ⟨rfl, rfl⟩
  have hxs := sgB_size i (by omega)
  have hys := sgB_size j (by omega)
  have z1 : ((⟨#[102, 117, 110, 99, 32, 109, 97, 105, 110, 40, 41, 32, 123, 32, 120, 32, 58, 61, 32, 97, 32]⟩ : ByteArray) ++ sgB i).size = 21 + (sgB i).size := ByteArray.size_append
  have z2 : ((⟨#[102, 117, 110, 99, 32, 109, 97, 105, 110, 40, 41, 32, 123, 32, 120, 32, 58, 61, 32, 97, 32]⟩ : ByteArray) ++ sgB i ++ (⟨#[32, 98, 32]⟩ : ByteArray)).size = 24 + (sgB i).size := by rw [ByteArray.size_append, z1]; show 21 + (sgB i).size + 3 = _; omega
  have z3 : ((⟨#[102, 117, 110, 99, 32, 109, 97, 105, 110, 40, 41, 32, 123, 32, 120, 32, 58, 61, 32, 97, 32]⟩ : ByteArray) ++ sgB i ++ (⟨#[32, 98, 32]⟩ : ByteArray) ++ sgB j).size = 24 + (sgB i).size + (sgB j).size := by rw [ByteArray.size_append, z2]
  have HE : Hid (_ = rkSrc i j) := rkSrc_eq i j
  have HR : Hid (∀ k : Nat, k < 16 → ∀ W, Calls Tryz.prog 13 #[.int .i64 (1 + (k : Int))] W fun e w' => e = .returned (.int .i64 ((rkRank (k + 1) : Nat) : Int)) ∧ w' = W) := fun k hk W => own_rank k hk W
  go_wp2_with fail
  rw [HE.out]
  refine (HP.out i j (by omega) (by omega)).mono ?_
  rintro e w1 ⟨hb, g, cap, rfl, hN⟩
  have HB : Hid (Below w'.heap.size w' w1) := hb
  clear hb z1 z2 z3 HE
  by_cases hr : rkRank (j + 1) > rkRank (i + 1)
  · rw [if_pos hr] at hN
    obtain ⟨⟨ty5, nu5, ka5, kl5, kc5, p0, p1, p2, p3, p4⟩, ⟨ty4, nu4, ka4, kl4, kc4, q0, q1, q2, q3, q4⟩, ⟨t3, ty3, nu3, ka3, kl3, kc3, k3, s0, s1, s2, s3, s4⟩⟩ := hN
    have hrI : ((rkRank (i + 1) : Nat) : Int) < ((rkRank (j + 1) : Nat) : Int) := by omega
    clear hr
    go_wp2_with fail
    have HS5 : Hid (Five w1 g 25 (.int .i64 27) (.string (sgB i)) (.string ty5) (.int .i64 nu5) (.slice ka5 kl5 kc5) ∧ Five w1 g 15 (.int .i64 k3) (.string t3) (.string ty3) (.int .i64 nu3) (.slice ka3 kl3 kc3) ∧ Five w1 g 20 (.int .i64 27) (.string (sgB j)) (.string ty4) (.int .i64 nu4) (.slice ka4 kl4 kc4)) := ⟨⟨p0, p1, p2, p3, p4⟩, ⟨s0, s1, s2, s3, s4⟩, ⟨q0, q1, q2, q3, q4⟩⟩
    clear p0 p1 p2 p3 p4 q0 q1 q2 q3 q4 s0 s1 s2 s3 s4
    have HB2 : Hid (Below w'.heap.size w' (w1.alloc (.cells #[.int .i64 0, .int .i64 0, .int .i64 0] 25))) := HB.out.alloc HB.out.size _
    have HF2 := HS5.out
    have HF3 : Hid (Five ((w1.alloc (.cells #[.int .i64 0, .int .i64 0, .int .i64 0] 25)).drewN 1) g 25 (.int .i64 27) (.string (sgB i)) (.string ty5) (.int .i64 nu5) (.slice ka5 kl5 kc5) ∧ Five ((w1.alloc (.cells #[.int .i64 0, .int .i64 0, .int .i64 0] 25)).drewN 1) g 15 (.int .i64 k3) (.string t3) (.string ty3) (.int .i64 nu3) (.slice ka3 kl3 kc3) ∧ Five ((w1.alloc (.cells #[.int .i64 0, .int .i64 0, .int .i64 0] 25)).drewN 1) g 20 (.int .i64 27) (.string (sgB j)) (.string ty4) (.int .i64 nu4) (.slice ka4 kl4 kc4)) := ⟨HF2.1.alloc _, HF2.2.1.alloc _, HF2.2.2.alloc _⟩
    have HB3 : Hid (Below w'.heap.size w' ((w1.alloc (.cells #[.int .i64 0, .int .i64 0, .int .i64 0] 25)).drewN 1)) := below_dn HB2.out 1
    clear HS5 HF2 HB HB2
    refine wp_region_any (by kernel_rfl) ?_
    change wpAny _ _ _ _ _ _ _ ((w1.alloc (.cells #[.int .i64 0, .int .i64 0, .int .i64 0] 25)).drewN 1)
    generalize (w1.alloc (.cells #[.int .i64 0, .int .i64 0, .int .i64 0] 25)).drewN 1 = W3 at *
    refine wpAny_headS (fun W => Five W g 25 (.int .i64 27) (.string (sgB i)) (.string ty5) (.int .i64 nu5) (.slice ka5 kl5 kc5) ∧ Five W g 15 (.int .i64 k3) (.string t3) (.string ty3) (.int .i64 nu3) (.slice ka3 kl3 kc3)) 0 6 9 4 ⟨HF3.out.1, HF3.out.2.1⟩ (by kernel_rfl) (shutl_none _) (fun _ _ d _ _ h => by cases d <;> exact h) (by kernel_rfl) (by kernel_rfl) (by kernel_rfl) ?_
    simp only [List.take_succ_cons, List.take_zero, List.drop_zero]
    repeat (refine wpValS_step _ (by rfl) (by rintro W ⟨⟨c0, c1, c2, c3, c4⟩, ⟨d0, d1, d2, d3, d4⟩⟩; go_simp; try with_reducible rfl) ?_; try simp only [Act.put, List.setIfInBounds_toArray, List.set_cons_zero, List.set_cons_succ])
    refine wpValS_nil ?_
    refine T_two (i := 6) (j := 7) rfl rfl (by kernel_rfl) (fun K hK => ?_) (fun K hK => ?_)
    · go_simp
      refine hK _ _ (fun _ => ⟨HF3.out.1.alloc _, HF3.out.2.1.alloc _⟩) ?_
      clear hK K
      try simp only [Act.put, List.setIfInBounds_toArray, List.set_cons_zero, List.set_cons_succ]
      refine T_one (i := 7) rfl (by kernel_rfl) (fun K hK => ?_)
      go_simp
      refine hK _ _ (fun _ => ⟨(HF3.out.1.alloc _).alloc _, (HF3.out.2.1.alloc _).alloc _⟩) ?_
      clear hK K
      try simp only [Act.put, List.setIfInBounds_toArray, List.set_cons_zero, List.set_cons_succ]
      refine T_one (i := 8) rfl (by kernel_rfl) (fun K hK => ?_)
      go_simp
      refine hK _ _ (fun _ => ⟨(HF3.out.1.alloc _).alloc _, (HF3.out.2.1.alloc _).alloc _⟩) ?_
      clear hK K
      try simp only [Act.put, List.setIfInBounds_toArray, List.set_cons_zero, List.set_cons_succ]
      refine tail_of (by kernel_rfl) ?_
      refine wpAny_ready (rs := [9]) (by kernel_rfl) (by simp) ?_
      refine AllReady.cons rfl (fun K hK => ?_) AllReady.nil
      go_simp
      refine hK _ _ ?_
      clear hK K
      try simp only [Act.put, List.setIfInBounds_toArray, List.set_cons_zero, List.set_cons_succ]
      refine wpAny_done (by kernel_rfl) ?_ _
      have HN : Hid (((W3.alloc (.cells #[.int .i64 27, .string (sgB i), .string ty5, .int .i64 nu5, .slice ka5 kl5 kc5] 35)).alloc (.cells #[.int .i64 k3, .string t3, .string ty3, .int .i64 nu3, .slice ka3 kl3 kc3] 35)).heap[W3.heap.size]? = some (.cells #[.int .i64 27, .string (sgB i), .string ty5, .int .i64 nu5, .slice ka5 kl5 kc5] 35 (0, 0)) ∧ ((W3.alloc (.cells #[.int .i64 27, .string (sgB i), .string ty5, .int .i64 nu5, .slice ka5 kl5 kc5] 35)).alloc (.cells #[.int .i64 k3, .string t3, .string ty3, .int .i64 nu3, .slice ka3 kl3 kc3] 35)).heap[W3.heap.size + 1]? = some (.cells #[.int .i64 k3, .string t3, .string ty3, .int .i64 nu3, .slice ka3 kl3 kc3] 35 (0, 0)) ∧ W3.heap.size ≠ W3.heap.size + 1 ∧ w'.heap.size ≤ W3.heap.size ∧ w'.heap.size ≤ W3.heap.size + 1 ∧ g ≠ W3.heap.size ∧ g ≠ W3.heap.size + 1) := by
        have hg := World.block_lt_of_cell? _ _ HF3.out.1.1
        have hg' : g < W3.heap.size := hg
        have hz := HB3.out.size
        have h2 := two_new W3 #[.int .i64 27, .string (sgB i), .string ty5, .int .i64 nu5, .slice ka5 kl5 kc5] #[.int .i64 k3, .string t3, .string ty3, .int .i64 nu3, .slice ka3 kl3 kc3] 35
        exact ⟨h2.1, h2.2, by omega, by omega, by omega, by omega, by omega⟩
      have HF5 : Hid (Five ((W3.alloc (.cells #[.int .i64 27, .string (sgB i), .string ty5, .int .i64 nu5, .slice ka5 kl5 kc5] 35)).alloc (.cells #[.int .i64 k3, .string t3, .string ty3, .int .i64 nu3, .slice ka3 kl3 kc3] 35)) g 25 (.int .i64 27) (.string (sgB i)) (.string ty5) (.int .i64 nu5) (.slice ka5 kl5 kc5) ∧ Five ((W3.alloc (.cells #[.int .i64 27, .string (sgB i), .string ty5, .int .i64 nu5, .slice ka5 kl5 kc5] 35)).alloc (.cells #[.int .i64 k3, .string t3, .string ty3, .int .i64 nu3, .slice ka3 kl3 kc3] 35)) g 20 (.int .i64 27) (.string (sgB j)) (.string ty4) (.int .i64 nu4) (.slice ka4 kl4 kc4)) := ⟨(HF3.out.1.alloc _).alloc _, (HF3.out.2.2.alloc _).alloc _⟩
      have HB5 : Hid (Below w'.heap.size w' ((W3.alloc (.cells #[.int .i64 27, .string (sgB i), .string ty5, .int .i64 nu5, .slice ka5 kl5 kc5] 35)).alloc (.cells #[.int .i64 k3, .string t3, .string ty3, .int .i64 nu3, .slice ka3 kl3 kc3] 35))) := (HB3.out.alloc HB3.out.size _).alloc (by have := HB3.out.size; simp; omega) _
      clear HF3 HB3
      generalize (W3.alloc (.cells #[.int .i64 27, .string (sgB i), .string ty5, .int .i64 nu5, .slice ka5 kl5 kc5] 35)).alloc (.cells #[.int .i64 k3, .string t3, .string ty3, .int .i64 nu3, .slice ka3 kl3 kc3] 35) = W5 at *
      generalize W3.heap.size + 1 = bi at *
      generalize W3.heap.size = bt at *
      go_wp2_with fail
      refine (HR.out j (by omega) _).mono ?_
      rintro e w6 ⟨rfl, rfl⟩
      go_wp2_with fail
      refine (HR.out i (by omega) _).mono ?_
      rintro e w6 ⟨rfl, rfl⟩
      go_wp2_with fail
      refine wp_region_any (by kernel_rfl) ?_
      change wpAny _ _ _ _ _ _ _ (w6.drewN 1)
      have HN7 : Hid ((w6.drewN 1).heap[bt]? = some (.cells #[.int .i64 27, .string (sgB i), .string ty5, .int .i64 nu5, .slice ka5 kl5 kc5] 35 (0, 0)) ∧ (w6.drewN 1).heap[bi]? = some (.cells #[.int .i64 k3, .string t3, .string ty3, .int .i64 nu3, .slice ka3 kl3 kc3] 35 (0, 0)) ∧ bt ≠ bi ∧ w'.heap.size ≤ bt ∧ w'.heap.size ≤ bi ∧ g ≠ bt ∧ g ≠ bi) := HN.out
      have HF7 : Hid (Five (w6.drewN 1) g 25 (.int .i64 27) (.string (sgB i)) (.string ty5) (.int .i64 nu5) (.slice ka5 kl5 kc5) ∧ Five (w6.drewN 1) g 20 (.int .i64 27) (.string (sgB j)) (.string ty4) (.int .i64 nu4) (.slice ka4 kl4 kc4)) := HF5.out
      have HB7 : Hid (Below w'.heap.size w' (w6.drewN 1)) := below_dn HB5.out 1
      clear HN HF5 HB5
      generalize w6.drewN 1 = W7 at *
      refine wpAny_headS (fun W => Five W g 25 (.int .i64 27) (.string (sgB i)) (.string ty5) (.int .i64 nu5) (.slice ka5 kl5 kc5) ∧ Five W g 20 (.int .i64 27) (.string (sgB j)) (.string ty4) (.int .i64 nu4) (.slice ka4 kl4 kc4)) 0 6 7 2 HF7.out (by kernel_rfl) (shutl_none _) (fun _ _ d _ _ h => by cases d <;> exact h) (by kernel_rfl) (by kernel_rfl) (by kernel_rfl) ?_
      simp only [List.take_succ_cons, List.take_zero, List.drop_zero]
      repeat (refine wpValS_step _ (by rfl) (by rintro W ⟨⟨c0, c1, c2, c3, c4⟩, ⟨d0, d1, d2, d3, d4⟩⟩; go_simp; try with_reducible rfl) ?_; try simp only [Act.put, List.setIfInBounds_toArray, List.set_cons_zero, List.set_cons_succ])
      refine wpValS_nil ?_
      have HP7 := put5_heap (.int .i64 27) (.string (sgB i)) (.string ty5) (.int .i64 nu5) (.slice ka5 kl5 kc5) HN7.out.1
      have HN8 : Hid ((put5 W7 bt (.int .i64 27) (.string (sgB i)) (.string ty5) (.int .i64 nu5) (.slice ka5 kl5 kc5)).heap[bt]? = some (.cells #[.int .i64 27, .string (sgB i), .string ty5, .int .i64 nu5, .slice ka5 kl5 kc5] 35 (0, 0)) ∧ (put5 W7 bt (.int .i64 27) (.string (sgB i)) (.string ty5) (.int .i64 nu5) (.slice ka5 kl5 kc5)).heap[bi]? = some (.cells #[.int .i64 k3, .string t3, .string ty3, .int .i64 nu3, .slice ka3 kl3 kc3] 35 (0, 0))) := ⟨HP7.1, (HP7.2 bi HN7.out.2.2.1.symm).trans HN7.out.2.1⟩
      have HF8 : Hid (Five (put5 W7 bt (.int .i64 27) (.string (sgB i)) (.string ty5) (.int .i64 nu5) (.slice ka5 kl5 kc5)) g 25 (.int .i64 27) (.string (sgB i)) (.string ty5) (.int .i64 nu5) (.slice ka5 kl5 kc5) ∧ Five (put5 W7 bt (.int .i64 27) (.string (sgB i)) (.string ty5) (.int .i64 nu5) (.slice ka5 kl5 kc5)) g 20 (.int .i64 27) (.string (sgB j)) (.string ty4) (.int .i64 nu4) (.slice ka4 kl4 kc4)) := ⟨HF7.out.1.at (HP7.2 g HN7.out.2.2.2.2.2.1), HF7.out.2.at (HP7.2 g HN7.out.2.2.2.2.2.1)⟩
      have HB8 : Hid (Below w'.heap.size w' (put5 W7 bt (.int .i64 27) (.string (sgB i)) (.string ty5) (.int .i64 nu5) (.slice ka5 kl5 kc5))) := put5_below _ _ _ _ _ HB7.out HN7.out.2.2.2.1
      clear HP7
      have x1 := HN7.out.1
      have g0 : W7.cell? ⟨bt, 0, none⟩ = some (.int .i64 27) := by simp [World.cell?, x1]
      have g1 : W7.cell? ⟨bt, 1, none⟩ = some (.string (sgB i)) := by simp [World.cell?, x1]
      have g2 : W7.cell? ⟨bt, 2, none⟩ = some (.string ty5) := by simp [World.cell?, x1]
      have g3 : W7.cell? ⟨bt, 3, none⟩ = some (.int .i64 nu5) := by simp [World.cell?, x1]
      have g4 : W7.cell? ⟨bt, 4, none⟩ = some (.slice ka5 kl5 kc5) := by simp [World.cell?, x1]
      have f1 : ∀ k, W7.frozen? ⟨bt, k, none⟩ = false := by intro k; simp [World.frozen?, x1]
      clear x1
      refine T_one (i := 6) rfl (by kernel_rfl) (fun K hK => ?_)
      go_simp
      clear g0 g1 g2 g3 g4 f1
      have HK : Hid _ := hK
      clear hK
      change K _ (put5 W7 bt (.int .i64 27) (.string (sgB i)) (.string ty5) (.int .i64 nu5) (.slice ka5 kl5 kc5))
      refine HK.out _ _ (fun _ => HF8.out) ?_
      clear HK K
      try simp only [Act.put, List.setIfInBounds_toArray, List.set_cons_zero, List.set_cons_succ]
      have HO : Hid (bt ≠ bi ∧ w'.heap.size ≤ bt ∧ w'.heap.size ≤ bi) := ⟨HN7.out.2.2.1, HN7.out.2.2.2.1, HN7.out.2.2.2.2.1⟩
      clear HN7 HF7 HB7
      generalize put5 W7 bt (.int .i64 27) (.string (sgB i)) (.string ty5) (.int .i64 nu5) (.slice ka5 kl5 kc5) = W8 at *
      have HP8 := put5_heap (.int .i64 27) (.string (sgB j)) (.string ty4) (.int .i64 nu4) (.slice ka4 kl4 kc4) HN8.out.2
      have HN9 : Hid ((put5 W8 bi (.int .i64 27) (.string (sgB j)) (.string ty4) (.int .i64 nu4) (.slice ka4 kl4 kc4)).heap[bt]? = some (.cells #[.int .i64 27, .string (sgB i), .string ty5, .int .i64 nu5, .slice ka5 kl5 kc5] 35 (0, 0)) ∧ (put5 W8 bi (.int .i64 27) (.string (sgB j)) (.string ty4) (.int .i64 nu4) (.slice ka4 kl4 kc4)).heap[bi]? = some (.cells #[.int .i64 27, .string (sgB j), .string ty4, .int .i64 nu4, .slice ka4 kl4 kc4] 35 (0, 0))) := ⟨(HP8.2 bt HO.out.1).trans HN8.out.1, HP8.1⟩
      have HB9 : Hid (Below w'.heap.size w' (put5 W8 bi (.int .i64 27) (.string (sgB j)) (.string ty4) (.int .i64 nu4) (.slice ka4 kl4 kc4))) := put5_below _ _ _ _ _ HB8.out HO.out.2.2
      clear HP8
      have x1 := HN8.out.2
      have g0 : W8.cell? ⟨bi, 0, none⟩ = some (.int .i64 k3) := by simp [World.cell?, x1]
      have g1 : W8.cell? ⟨bi, 1, none⟩ = some (.string t3) := by simp [World.cell?, x1]
      have g2 : W8.cell? ⟨bi, 2, none⟩ = some (.string ty3) := by simp [World.cell?, x1]
      have g3 : W8.cell? ⟨bi, 3, none⟩ = some (.int .i64 nu3) := by simp [World.cell?, x1]
      have g4 : W8.cell? ⟨bi, 4, none⟩ = some (.slice ka3 kl3 kc3) := by simp [World.cell?, x1]
      have f1 : ∀ k, W8.frozen? ⟨bi, k, none⟩ = false := by intro k; simp [World.frozen?, x1]
      clear x1
      refine tail_of (by kernel_rfl) ?_
      refine wpAny_ready (rs := [7]) (by kernel_rfl) (by simp) ?_
      refine AllReady.cons rfl (fun K hK => ?_) AllReady.nil
      go_simp
      clear g0 g1 g2 g3 g4 f1
      have HK : Hid _ := hK
      clear hK
      change K _ (put5 W8 bi (.int .i64 27) (.string (sgB j)) (.string ty4) (.int .i64 nu4) (.slice ka4 kl4 kc4))
      refine HK.out _ _ ?_
      clear HK K
      try simp only [Act.put, List.setIfInBounds_toArray, List.set_cons_zero, List.set_cons_succ]
      refine wpAny_done (by kernel_rfl) ?_ _
      clear HN8 HF8 HB8
      generalize put5 W8 bi (.int .i64 27) (.string (sgB j)) (.string ty4) (.int .i64 nu4) (.slice ka4 kl4 kc4) = W9 at *
      have y1 := HN9.out.1
      have y2 := HN9.out.2
      have g0 : W9.cell? ⟨bt, 0, none⟩ = some (.int .i64 27) := by simp [World.cell?, y1]
      have g1 : W9.cell? ⟨bt, 1, none⟩ = some (.string (sgB i)) := by simp [World.cell?, y1]
      have e0 : W9.cell? ⟨bi, 0, none⟩ = some (.int .i64 27) := by simp [World.cell?, y2]
      have e1 : W9.cell? ⟨bi, 1, none⟩ = some (.string (sgB j)) := by simp [World.cell?, y2]
      clear y1 y2
      go_wp2_with fail
      refine (HR.out j (by omega) _).mono ?_
      rintro e w10 ⟨rfl, rfl⟩
      go_wp2_with fail
      refine (HR.out i (by omega) _).mono ?_
      rintro e w10 ⟨rfl, rfl⟩
      go_wp2_with fail
      go_ret
      exact ⟨rfl, by first | exact HB9.out | exact below_dn HB9.out _⟩
    · go_simp
      refine hK _ _ (fun _ => ⟨HF3.out.1.alloc _, HF3.out.2.1.alloc _⟩) ?_
      clear hK K
      try simp only [Act.put, List.setIfInBounds_toArray, List.set_cons_zero, List.set_cons_succ]
      refine T_one (i := 6) rfl (by kernel_rfl) (fun K hK => ?_)
      go_simp
      refine hK _ _ (fun _ => ⟨(HF3.out.1.alloc _).alloc _, (HF3.out.2.1.alloc _).alloc _⟩) ?_
      clear hK K
      try simp only [Act.put, List.setIfInBounds_toArray, List.set_cons_zero, List.set_cons_succ]
      refine T_one (i := 8) rfl (by kernel_rfl) (fun K hK => ?_)
      go_simp
      refine hK _ _ (fun _ => ⟨(HF3.out.1.alloc _).alloc _, (HF3.out.2.1.alloc _).alloc _⟩) ?_
      clear hK K
      try simp only [Act.put, List.setIfInBounds_toArray, List.set_cons_zero, List.set_cons_succ]
      refine tail_of (by kernel_rfl) ?_
      refine wpAny_ready (rs := [9]) (by kernel_rfl) (by simp) ?_
      refine AllReady.cons rfl (fun K hK => ?_) AllReady.nil
      go_simp
      refine hK _ _ ?_
      clear hK K
      try simp only [Act.put, List.setIfInBounds_toArray, List.set_cons_zero, List.set_cons_succ]
      refine wpAny_done (by kernel_rfl) ?_ _
      have HN : Hid (((W3.alloc (.cells #[.int .i64 k3, .string t3, .string ty3, .int .i64 nu3, .slice ka3 kl3 kc3] 35)).alloc (.cells #[.int .i64 27, .string (sgB i), .string ty5, .int .i64 nu5, .slice ka5 kl5 kc5] 35)).heap[W3.heap.size + 1]? = some (.cells #[.int .i64 27, .string (sgB i), .string ty5, .int .i64 nu5, .slice ka5 kl5 kc5] 35 (0, 0)) ∧ ((W3.alloc (.cells #[.int .i64 k3, .string t3, .string ty3, .int .i64 nu3, .slice ka3 kl3 kc3] 35)).alloc (.cells #[.int .i64 27, .string (sgB i), .string ty5, .int .i64 nu5, .slice ka5 kl5 kc5] 35)).heap[W3.heap.size]? = some (.cells #[.int .i64 k3, .string t3, .string ty3, .int .i64 nu3, .slice ka3 kl3 kc3] 35 (0, 0)) ∧ W3.heap.size + 1 ≠ W3.heap.size ∧ w'.heap.size ≤ W3.heap.size + 1 ∧ w'.heap.size ≤ W3.heap.size ∧ g ≠ W3.heap.size + 1 ∧ g ≠ W3.heap.size) := by
        have hg := World.block_lt_of_cell? _ _ HF3.out.1.1
        have hg' : g < W3.heap.size := hg
        have hz := HB3.out.size
        have h2 := two_new W3 #[.int .i64 k3, .string t3, .string ty3, .int .i64 nu3, .slice ka3 kl3 kc3] #[.int .i64 27, .string (sgB i), .string ty5, .int .i64 nu5, .slice ka5 kl5 kc5] 35
        exact ⟨h2.2, h2.1, by omega, by omega, by omega, by omega, by omega⟩
      have HF5 : Hid (Five ((W3.alloc (.cells #[.int .i64 k3, .string t3, .string ty3, .int .i64 nu3, .slice ka3 kl3 kc3] 35)).alloc (.cells #[.int .i64 27, .string (sgB i), .string ty5, .int .i64 nu5, .slice ka5 kl5 kc5] 35)) g 25 (.int .i64 27) (.string (sgB i)) (.string ty5) (.int .i64 nu5) (.slice ka5 kl5 kc5) ∧ Five ((W3.alloc (.cells #[.int .i64 k3, .string t3, .string ty3, .int .i64 nu3, .slice ka3 kl3 kc3] 35)).alloc (.cells #[.int .i64 27, .string (sgB i), .string ty5, .int .i64 nu5, .slice ka5 kl5 kc5] 35)) g 20 (.int .i64 27) (.string (sgB j)) (.string ty4) (.int .i64 nu4) (.slice ka4 kl4 kc4)) := ⟨(HF3.out.1.alloc _).alloc _, (HF3.out.2.2.alloc _).alloc _⟩
      have HB5 : Hid (Below w'.heap.size w' ((W3.alloc (.cells #[.int .i64 k3, .string t3, .string ty3, .int .i64 nu3, .slice ka3 kl3 kc3] 35)).alloc (.cells #[.int .i64 27, .string (sgB i), .string ty5, .int .i64 nu5, .slice ka5 kl5 kc5] 35))) := (HB3.out.alloc HB3.out.size _).alloc (by have := HB3.out.size; simp; omega) _
      clear HF3 HB3
      generalize (W3.alloc (.cells #[.int .i64 k3, .string t3, .string ty3, .int .i64 nu3, .slice ka3 kl3 kc3] 35)).alloc (.cells #[.int .i64 27, .string (sgB i), .string ty5, .int .i64 nu5, .slice ka5 kl5 kc5] 35) = W5 at *
      generalize W3.heap.size + 1 = bt at *
      generalize W3.heap.size = bi at *
      go_wp2_with fail
      refine (HR.out j (by omega) _).mono ?_
      rintro e w6 ⟨rfl, rfl⟩
      go_wp2_with fail
      refine (HR.out i (by omega) _).mono ?_
      rintro e w6 ⟨rfl, rfl⟩
      go_wp2_with fail
      refine wp_region_any (by kernel_rfl) ?_
      change wpAny _ _ _ _ _ _ _ (w6.drewN 1)
      have HN7 : Hid ((w6.drewN 1).heap[bt]? = some (.cells #[.int .i64 27, .string (sgB i), .string ty5, .int .i64 nu5, .slice ka5 kl5 kc5] 35 (0, 0)) ∧ (w6.drewN 1).heap[bi]? = some (.cells #[.int .i64 k3, .string t3, .string ty3, .int .i64 nu3, .slice ka3 kl3 kc3] 35 (0, 0)) ∧ bt ≠ bi ∧ w'.heap.size ≤ bt ∧ w'.heap.size ≤ bi ∧ g ≠ bt ∧ g ≠ bi) := HN.out
      have HF7 : Hid (Five (w6.drewN 1) g 25 (.int .i64 27) (.string (sgB i)) (.string ty5) (.int .i64 nu5) (.slice ka5 kl5 kc5) ∧ Five (w6.drewN 1) g 20 (.int .i64 27) (.string (sgB j)) (.string ty4) (.int .i64 nu4) (.slice ka4 kl4 kc4)) := HF5.out
      have HB7 : Hid (Below w'.heap.size w' (w6.drewN 1)) := below_dn HB5.out 1
      clear HN HF5 HB5
      generalize w6.drewN 1 = W7 at *
      refine wpAny_headS (fun W => Five W g 25 (.int .i64 27) (.string (sgB i)) (.string ty5) (.int .i64 nu5) (.slice ka5 kl5 kc5) ∧ Five W g 20 (.int .i64 27) (.string (sgB j)) (.string ty4) (.int .i64 nu4) (.slice ka4 kl4 kc4)) 0 6 7 2 HF7.out (by kernel_rfl) (shutl_none _) (fun _ _ d _ _ h => by cases d <;> exact h) (by kernel_rfl) (by kernel_rfl) (by kernel_rfl) ?_
      simp only [List.take_succ_cons, List.take_zero, List.drop_zero]
      repeat (refine wpValS_step _ (by rfl) (by rintro W ⟨⟨c0, c1, c2, c3, c4⟩, ⟨d0, d1, d2, d3, d4⟩⟩; go_simp; try with_reducible rfl) ?_; try simp only [Act.put, List.setIfInBounds_toArray, List.set_cons_zero, List.set_cons_succ])
      refine wpValS_nil ?_
      have HP7 := put5_heap (.int .i64 27) (.string (sgB i)) (.string ty5) (.int .i64 nu5) (.slice ka5 kl5 kc5) HN7.out.1
      have HN8 : Hid ((put5 W7 bt (.int .i64 27) (.string (sgB i)) (.string ty5) (.int .i64 nu5) (.slice ka5 kl5 kc5)).heap[bt]? = some (.cells #[.int .i64 27, .string (sgB i), .string ty5, .int .i64 nu5, .slice ka5 kl5 kc5] 35 (0, 0)) ∧ (put5 W7 bt (.int .i64 27) (.string (sgB i)) (.string ty5) (.int .i64 nu5) (.slice ka5 kl5 kc5)).heap[bi]? = some (.cells #[.int .i64 k3, .string t3, .string ty3, .int .i64 nu3, .slice ka3 kl3 kc3] 35 (0, 0))) := ⟨HP7.1, (HP7.2 bi HN7.out.2.2.1.symm).trans HN7.out.2.1⟩
      have HF8 : Hid (Five (put5 W7 bt (.int .i64 27) (.string (sgB i)) (.string ty5) (.int .i64 nu5) (.slice ka5 kl5 kc5)) g 25 (.int .i64 27) (.string (sgB i)) (.string ty5) (.int .i64 nu5) (.slice ka5 kl5 kc5) ∧ Five (put5 W7 bt (.int .i64 27) (.string (sgB i)) (.string ty5) (.int .i64 nu5) (.slice ka5 kl5 kc5)) g 20 (.int .i64 27) (.string (sgB j)) (.string ty4) (.int .i64 nu4) (.slice ka4 kl4 kc4)) := ⟨HF7.out.1.at (HP7.2 g HN7.out.2.2.2.2.2.1), HF7.out.2.at (HP7.2 g HN7.out.2.2.2.2.2.1)⟩
      have HB8 : Hid (Below w'.heap.size w' (put5 W7 bt (.int .i64 27) (.string (sgB i)) (.string ty5) (.int .i64 nu5) (.slice ka5 kl5 kc5))) := put5_below _ _ _ _ _ HB7.out HN7.out.2.2.2.1
      clear HP7
      have x1 := HN7.out.1
      have g0 : W7.cell? ⟨bt, 0, none⟩ = some (.int .i64 27) := by simp [World.cell?, x1]
      have g1 : W7.cell? ⟨bt, 1, none⟩ = some (.string (sgB i)) := by simp [World.cell?, x1]
      have g2 : W7.cell? ⟨bt, 2, none⟩ = some (.string ty5) := by simp [World.cell?, x1]
      have g3 : W7.cell? ⟨bt, 3, none⟩ = some (.int .i64 nu5) := by simp [World.cell?, x1]
      have g4 : W7.cell? ⟨bt, 4, none⟩ = some (.slice ka5 kl5 kc5) := by simp [World.cell?, x1]
      have f1 : ∀ k, W7.frozen? ⟨bt, k, none⟩ = false := by intro k; simp [World.frozen?, x1]
      clear x1
      refine T_one (i := 6) rfl (by kernel_rfl) (fun K hK => ?_)
      go_simp
      clear g0 g1 g2 g3 g4 f1
      have HK : Hid _ := hK
      clear hK
      change K _ (put5 W7 bt (.int .i64 27) (.string (sgB i)) (.string ty5) (.int .i64 nu5) (.slice ka5 kl5 kc5))
      refine HK.out _ _ (fun _ => HF8.out) ?_
      clear HK K
      try simp only [Act.put, List.setIfInBounds_toArray, List.set_cons_zero, List.set_cons_succ]
      have HO : Hid (bt ≠ bi ∧ w'.heap.size ≤ bt ∧ w'.heap.size ≤ bi) := ⟨HN7.out.2.2.1, HN7.out.2.2.2.1, HN7.out.2.2.2.2.1⟩
      clear HN7 HF7 HB7
      generalize put5 W7 bt (.int .i64 27) (.string (sgB i)) (.string ty5) (.int .i64 nu5) (.slice ka5 kl5 kc5) = W8 at *
      have HP8 := put5_heap (.int .i64 27) (.string (sgB j)) (.string ty4) (.int .i64 nu4) (.slice ka4 kl4 kc4) HN8.out.2
      have HN9 : Hid ((put5 W8 bi (.int .i64 27) (.string (sgB j)) (.string ty4) (.int .i64 nu4) (.slice ka4 kl4 kc4)).heap[bt]? = some (.cells #[.int .i64 27, .string (sgB i), .string ty5, .int .i64 nu5, .slice ka5 kl5 kc5] 35 (0, 0)) ∧ (put5 W8 bi (.int .i64 27) (.string (sgB j)) (.string ty4) (.int .i64 nu4) (.slice ka4 kl4 kc4)).heap[bi]? = some (.cells #[.int .i64 27, .string (sgB j), .string ty4, .int .i64 nu4, .slice ka4 kl4 kc4] 35 (0, 0))) := ⟨(HP8.2 bt HO.out.1).trans HN8.out.1, HP8.1⟩
      have HB9 : Hid (Below w'.heap.size w' (put5 W8 bi (.int .i64 27) (.string (sgB j)) (.string ty4) (.int .i64 nu4) (.slice ka4 kl4 kc4))) := put5_below _ _ _ _ _ HB8.out HO.out.2.2
      clear HP8
      have x1 := HN8.out.2
      have g0 : W8.cell? ⟨bi, 0, none⟩ = some (.int .i64 k3) := by simp [World.cell?, x1]
      have g1 : W8.cell? ⟨bi, 1, none⟩ = some (.string t3) := by simp [World.cell?, x1]
      have g2 : W8.cell? ⟨bi, 2, none⟩ = some (.string ty3) := by simp [World.cell?, x1]
      have g3 : W8.cell? ⟨bi, 3, none⟩ = some (.int .i64 nu3) := by simp [World.cell?, x1]
      have g4 : W8.cell? ⟨bi, 4, none⟩ = some (.slice ka3 kl3 kc3) := by simp [World.cell?, x1]
      have f1 : ∀ k, W8.frozen? ⟨bi, k, none⟩ = false := by intro k; simp [World.frozen?, x1]
      clear x1
      refine tail_of (by kernel_rfl) ?_
      refine wpAny_ready (rs := [7]) (by kernel_rfl) (by simp) ?_
      refine AllReady.cons rfl (fun K hK => ?_) AllReady.nil
      go_simp
      clear g0 g1 g2 g3 g4 f1
      have HK : Hid _ := hK
      clear hK
      change K _ (put5 W8 bi (.int .i64 27) (.string (sgB j)) (.string ty4) (.int .i64 nu4) (.slice ka4 kl4 kc4))
      refine HK.out _ _ ?_
      clear HK K
      try simp only [Act.put, List.setIfInBounds_toArray, List.set_cons_zero, List.set_cons_succ]
      refine wpAny_done (by kernel_rfl) ?_ _
      clear HN8 HF8 HB8
      generalize put5 W8 bi (.int .i64 27) (.string (sgB j)) (.string ty4) (.int .i64 nu4) (.slice ka4 kl4 kc4) = W9 at *
      have y1 := HN9.out.1
      have y2 := HN9.out.2
      have g0 : W9.cell? ⟨bt, 0, none⟩ = some (.int .i64 27) := by simp [World.cell?, y1]
      have g1 : W9.cell? ⟨bt, 1, none⟩ = some (.string (sgB i)) := by simp [World.cell?, y1]
      have e0 : W9.cell? ⟨bi, 0, none⟩ = some (.int .i64 27) := by simp [World.cell?, y2]
      have e1 : W9.cell? ⟨bi, 1, none⟩ = some (.string (sgB j)) := by simp [World.cell?, y2]
      clear y1 y2
      go_wp2_with fail
      refine (HR.out j (by omega) _).mono ?_
      rintro e w10 ⟨rfl, rfl⟩
      go_wp2_with fail
      refine (HR.out i (by omega) _).mono ?_
      rintro e w10 ⟨rfl, rfl⟩
      go_wp2_with fail
      go_ret
      exact ⟨rfl, by first | exact HB9.out | exact below_dn HB9.out _⟩
  · rw [if_neg hr] at hN
    obtain ⟨⟨ty5, nu5, ka5, kl5, kc5, p0, p1, p2, p3, p4⟩, ⟨ty3, nu3, ka3, kl3, kc3, s0, s1, s2, s3, s4⟩⟩ := hN
    have hrI : decide (((rkRank (i + 1) : Nat) : Int) < ((rkRank (j + 1) : Nat) : Int)) = false := by simp; omega
    have hrJ : ¬ ((rkRank (i + 1) : Nat) : Int) < ((rkRank (j + 1) : Nat) : Int) := by omega
    have hrN : ¬ rkRank (i + 1) < rkRank (j + 1) := hr
    clear hr
    go_wp2_with fail
    have HS5 : Hid (Five w1 g 25 (.int .i64 27) (.string (sgB j)) (.string ty5) (.int .i64 nu5) (.slice ka5 kl5 kc5) ∧ Five w1 g 15 (.int .i64 27) (.string (sgB i)) (.string ty3) (.int .i64 nu3) (.slice ka3 kl3 kc3)) := ⟨⟨p0, p1, p2, p3, p4⟩, ⟨s0, s1, s2, s3, s4⟩⟩
    clear p0 p1 p2 p3 p4 s0 s1 s2 s3 s4
    have HB2 : Hid (Below w'.heap.size w' (w1.alloc (.cells #[.int .i64 0, .int .i64 0, .int .i64 0] 25))) := HB.out.alloc HB.out.size _
    have HF2 := HS5.out
    have HF3 : Hid (Five ((w1.alloc (.cells #[.int .i64 0, .int .i64 0, .int .i64 0] 25)).drewN 1) g 25 (.int .i64 27) (.string (sgB j)) (.string ty5) (.int .i64 nu5) (.slice ka5 kl5 kc5) ∧ Five ((w1.alloc (.cells #[.int .i64 0, .int .i64 0, .int .i64 0] 25)).drewN 1) g 15 (.int .i64 27) (.string (sgB i)) (.string ty3) (.int .i64 nu3) (.slice ka3 kl3 kc3)) := ⟨HF2.1.alloc _, HF2.2.alloc _⟩
    have HB3 : Hid (Below w'.heap.size w' ((w1.alloc (.cells #[.int .i64 0, .int .i64 0, .int .i64 0] 25)).drewN 1)) := below_dn HB2.out 1
    clear HS5 HF2 HB HB2
    refine wp_region_any (by kernel_rfl) ?_
    change wpAny _ _ _ _ _ _ _ ((w1.alloc (.cells #[.int .i64 0, .int .i64 0, .int .i64 0] 25)).drewN 1)
    generalize (w1.alloc (.cells #[.int .i64 0, .int .i64 0, .int .i64 0] 25)).drewN 1 = W3 at *
    refine wpAny_headS (fun W => Five W g 25 (.int .i64 27) (.string (sgB j)) (.string ty5) (.int .i64 nu5) (.slice ka5 kl5 kc5) ∧ Five W g 15 (.int .i64 27) (.string (sgB i)) (.string ty3) (.int .i64 nu3) (.slice ka3 kl3 kc3)) 0 6 9 4 HF3.out (by kernel_rfl) (shutl_none _) (fun _ _ d _ _ h => by cases d <;> exact h) (by kernel_rfl) (by kernel_rfl) (by kernel_rfl) ?_
    simp only [List.take_succ_cons, List.take_zero, List.drop_zero]
    repeat (refine wpValS_step _ (by rfl) (by rintro W ⟨⟨c0, c1, c2, c3, c4⟩, ⟨d0, d1, d2, d3, d4⟩⟩; go_simp; try with_reducible rfl) ?_; try simp only [Act.put, List.setIfInBounds_toArray, List.set_cons_zero, List.set_cons_succ])
    refine wpValS_nil ?_
    refine T_two (i := 6) (j := 7) rfl rfl (by kernel_rfl) (fun K hK => ?_) (fun K hK => ?_)
    · go_simp
      refine hK _ _ (fun _ => ⟨HF3.out.1.alloc _, HF3.out.2.alloc _⟩) ?_
      clear hK K
      try simp only [Act.put, List.setIfInBounds_toArray, List.set_cons_zero, List.set_cons_succ]
      refine T_one (i := 7) rfl (by kernel_rfl) (fun K hK => ?_)
      go_simp
      refine hK _ _ (fun _ => ⟨(HF3.out.1.alloc _).alloc _, (HF3.out.2.alloc _).alloc _⟩) ?_
      clear hK K
      try simp only [Act.put, List.setIfInBounds_toArray, List.set_cons_zero, List.set_cons_succ]
      refine T_one (i := 8) rfl (by kernel_rfl) (fun K hK => ?_)
      go_simp
      refine hK _ _ (fun _ => ⟨(HF3.out.1.alloc _).alloc _, (HF3.out.2.alloc _).alloc _⟩) ?_
      clear hK K
      try simp only [Act.put, List.setIfInBounds_toArray, List.set_cons_zero, List.set_cons_succ]
      refine tail_of (by kernel_rfl) ?_
      refine wpAny_ready (rs := [9]) (by kernel_rfl) (by simp) ?_
      refine AllReady.cons rfl (fun K hK => ?_) AllReady.nil
      go_simp
      refine hK _ _ ?_
      clear hK K
      try simp only [Act.put, List.setIfInBounds_toArray, List.set_cons_zero, List.set_cons_succ]
      refine wpAny_done (by kernel_rfl) ?_ _
      have HN : Hid (((W3.alloc (.cells #[.int .i64 27, .string (sgB j), .string ty5, .int .i64 nu5, .slice ka5 kl5 kc5] 35)).alloc (.cells #[.int .i64 27, .string (sgB i), .string ty3, .int .i64 nu3, .slice ka3 kl3 kc3] 35)).heap[W3.heap.size]? = some (.cells #[.int .i64 27, .string (sgB j), .string ty5, .int .i64 nu5, .slice ka5 kl5 kc5] 35 (0, 0)) ∧ ((W3.alloc (.cells #[.int .i64 27, .string (sgB j), .string ty5, .int .i64 nu5, .slice ka5 kl5 kc5] 35)).alloc (.cells #[.int .i64 27, .string (sgB i), .string ty3, .int .i64 nu3, .slice ka3 kl3 kc3] 35)).heap[W3.heap.size + 1]? = some (.cells #[.int .i64 27, .string (sgB i), .string ty3, .int .i64 nu3, .slice ka3 kl3 kc3] 35 (0, 0)) ∧ W3.heap.size ≠ W3.heap.size + 1 ∧ w'.heap.size ≤ W3.heap.size ∧ w'.heap.size ≤ W3.heap.size + 1 ∧ g ≠ W3.heap.size ∧ g ≠ W3.heap.size + 1) := by
        have hg := World.block_lt_of_cell? _ _ HF3.out.1.1
        have hg' : g < W3.heap.size := hg
        have hz := HB3.out.size
        have h2 := two_new W3 #[.int .i64 27, .string (sgB j), .string ty5, .int .i64 nu5, .slice ka5 kl5 kc5] #[.int .i64 27, .string (sgB i), .string ty3, .int .i64 nu3, .slice ka3 kl3 kc3] 35
        exact ⟨h2.1, h2.2, by omega, by omega, by omega, by omega, by omega⟩
      have HB5 : Hid (Below w'.heap.size w' ((W3.alloc (.cells #[.int .i64 27, .string (sgB j), .string ty5, .int .i64 nu5, .slice ka5 kl5 kc5] 35)).alloc (.cells #[.int .i64 27, .string (sgB i), .string ty3, .int .i64 nu3, .slice ka3 kl3 kc3] 35))) := (HB3.out.alloc HB3.out.size _).alloc (by have := HB3.out.size; simp; omega) _
      clear HF3 HB3
      generalize (W3.alloc (.cells #[.int .i64 27, .string (sgB j), .string ty5, .int .i64 nu5, .slice ka5 kl5 kc5] 35)).alloc (.cells #[.int .i64 27, .string (sgB i), .string ty3, .int .i64 nu3, .slice ka3 kl3 kc3] 35) = W5 at *
      generalize W3.heap.size + 1 = bi at *
      generalize W3.heap.size = bt at *
      go_wp2_with fail
      refine (HR.out j (by omega) _).mono ?_
      rintro e w6 ⟨rfl, rfl⟩
      go_wp2_with fail
      refine (HR.out i (by omega) _).mono ?_
      rintro e w6 ⟨rfl, rfl⟩
      have y1 := HN.out.1
      have y2 := HN.out.2.1
      have g0 : w6.cell? ⟨bt, 0, none⟩ = some (.int .i64 27) := by simp [World.cell?, y1]
      have g1 : w6.cell? ⟨bt, 1, none⟩ = some (.string (sgB j)) := by simp [World.cell?, y1]
      have e0 : w6.cell? ⟨bi, 0, none⟩ = some (.int .i64 27) := by simp [World.cell?, y2]
      have e1 : w6.cell? ⟨bi, 1, none⟩ = some (.string (sgB i)) := by simp [World.cell?, y2]
      clear y1 y2
      go_wp2_with fail
      · refine (HR.out j (by omega) _).mono ?_
        rintro e w10 ⟨rfl, rfl⟩
        go_wp2_with fail
        refine (HR.out i (by omega) _).mono ?_
        rintro e w10 ⟨rfl, rfl⟩
        go_wp2_with fail
        go_ret
        exact ⟨rfl, by first | exact HB5.out | exact below_dn HB5.out _⟩
      · go_ret
        exact ⟨rfl, by first | exact HB5.out | exact below_dn HB5.out _⟩
    · go_simp
      refine hK _ _ (fun _ => ⟨HF3.out.1.alloc _, HF3.out.2.alloc _⟩) ?_
      clear hK K
      try simp only [Act.put, List.setIfInBounds_toArray, List.set_cons_zero, List.set_cons_succ]
      refine T_one (i := 6) rfl (by kernel_rfl) (fun K hK => ?_)
      go_simp
      refine hK _ _ (fun _ => ⟨(HF3.out.1.alloc _).alloc _, (HF3.out.2.alloc _).alloc _⟩) ?_
      clear hK K
      try simp only [Act.put, List.setIfInBounds_toArray, List.set_cons_zero, List.set_cons_succ]
      refine T_one (i := 8) rfl (by kernel_rfl) (fun K hK => ?_)
      go_simp
      refine hK _ _ (fun _ => ⟨(HF3.out.1.alloc _).alloc _, (HF3.out.2.alloc _).alloc _⟩) ?_
      clear hK K
      try simp only [Act.put, List.setIfInBounds_toArray, List.set_cons_zero, List.set_cons_succ]
      refine tail_of (by kernel_rfl) ?_
      refine wpAny_ready (rs := [9]) (by kernel_rfl) (by simp) ?_
      refine AllReady.cons rfl (fun K hK => ?_) AllReady.nil
      go_simp
      refine hK _ _ ?_
      clear hK K
      try simp only [Act.put, List.setIfInBounds_toArray, List.set_cons_zero, List.set_cons_succ]
      refine wpAny_done (by kernel_rfl) ?_ _
      have HN : Hid (((W3.alloc (.cells #[.int .i64 27, .string (sgB i), .string ty3, .int .i64 nu3, .slice ka3 kl3 kc3] 35)).alloc (.cells #[.int .i64 27, .string (sgB j), .string ty5, .int .i64 nu5, .slice ka5 kl5 kc5] 35)).heap[W3.heap.size + 1]? = some (.cells #[.int .i64 27, .string (sgB j), .string ty5, .int .i64 nu5, .slice ka5 kl5 kc5] 35 (0, 0)) ∧ ((W3.alloc (.cells #[.int .i64 27, .string (sgB i), .string ty3, .int .i64 nu3, .slice ka3 kl3 kc3] 35)).alloc (.cells #[.int .i64 27, .string (sgB j), .string ty5, .int .i64 nu5, .slice ka5 kl5 kc5] 35)).heap[W3.heap.size]? = some (.cells #[.int .i64 27, .string (sgB i), .string ty3, .int .i64 nu3, .slice ka3 kl3 kc3] 35 (0, 0)) ∧ W3.heap.size + 1 ≠ W3.heap.size ∧ w'.heap.size ≤ W3.heap.size + 1 ∧ w'.heap.size ≤ W3.heap.size ∧ g ≠ W3.heap.size + 1 ∧ g ≠ W3.heap.size) := by
        have hg := World.block_lt_of_cell? _ _ HF3.out.1.1
        have hg' : g < W3.heap.size := hg
        have hz := HB3.out.size
        have h2 := two_new W3 #[.int .i64 27, .string (sgB i), .string ty3, .int .i64 nu3, .slice ka3 kl3 kc3] #[.int .i64 27, .string (sgB j), .string ty5, .int .i64 nu5, .slice ka5 kl5 kc5] 35
        exact ⟨h2.2, h2.1, by omega, by omega, by omega, by omega, by omega⟩
      have HB5 : Hid (Below w'.heap.size w' ((W3.alloc (.cells #[.int .i64 27, .string (sgB i), .string ty3, .int .i64 nu3, .slice ka3 kl3 kc3] 35)).alloc (.cells #[.int .i64 27, .string (sgB j), .string ty5, .int .i64 nu5, .slice ka5 kl5 kc5] 35))) := (HB3.out.alloc HB3.out.size _).alloc (by have := HB3.out.size; simp; omega) _
      clear HF3 HB3
      generalize (W3.alloc (.cells #[.int .i64 27, .string (sgB i), .string ty3, .int .i64 nu3, .slice ka3 kl3 kc3] 35)).alloc (.cells #[.int .i64 27, .string (sgB j), .string ty5, .int .i64 nu5, .slice ka5 kl5 kc5] 35) = W5 at *
      generalize W3.heap.size + 1 = bt at *
      generalize W3.heap.size = bi at *
      go_wp2_with fail
      refine (HR.out j (by omega) _).mono ?_
      rintro e w6 ⟨rfl, rfl⟩
      go_wp2_with fail
      refine (HR.out i (by omega) _).mono ?_
      rintro e w6 ⟨rfl, rfl⟩
      have y1 := HN.out.1
      have y2 := HN.out.2.1
      have g0 : w6.cell? ⟨bt, 0, none⟩ = some (.int .i64 27) := by simp [World.cell?, y1]
      have g1 : w6.cell? ⟨bt, 1, none⟩ = some (.string (sgB j)) := by simp [World.cell?, y1]
      have e0 : w6.cell? ⟨bi, 0, none⟩ = some (.int .i64 27) := by simp [World.cell?, y2]
      have e1 : w6.cell? ⟨bi, 1, none⟩ = some (.string (sgB i)) := by simp [World.cell?, y2]
      clear y1 y2
      go_wp2_with fail
      · refine (HR.out j (by omega) _).mono ?_
        rintro e w10 ⟨rfl, rfl⟩
        go_wp2_with fail
        refine (HR.out i (by omega) _).mono ?_
        rintro e w10 ⟨rfl, rfl⟩
        go_wp2_with fail
        go_ret
        exact ⟨rfl, by first | exact HB5.out | exact below_dn HB5.out _⟩
      · go_ret
        exact ⟨rfl, by first | exact HB5.out | exact below_dn HB5.out _⟩
end Go.Proofs.YtpdndpajobfhmabGreatDoor
