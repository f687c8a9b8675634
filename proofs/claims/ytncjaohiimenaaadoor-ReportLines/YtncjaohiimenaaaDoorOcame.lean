/- An outcome that came in. -/
import Derived.Test.YtncjaohiimenaaaDoorProw
import Derived.Lib.SmallJoins
namespace Go.Proofs.YtncjaohiimenaaaDoor
open Go.ChangeShapes Go.WideShapes Go.ChangeAt Go.RowKit
set_option maxRecDepth 100000
set_option linter.unusedSimpArgs false
set_option linter.unusedVariables false
theorem Tryd.infoSta : (Tryd.prog.info? 114).map (fun i => (i.zero, i.size, i.bytes)) = some (some (.agg #[.int .i64 0, .int .i64 0, .int .i64 0]), 3, 24) := by kernel_rfl
theorem Tryd.cellsOut : Tryd.prog.cellsOf 42 = 6 := by kernel_rfl
theorem Tryd.cellsSta : Tryd.prog.cellsOf 114 = 3 := by kernel_rfl
theorem Tryd.bytesSta : Tryd.prog.bytesOf 114 = 24 := by kernel_rfl
theorem Tryd.cellsStrO : Tryd.prog.cellsOf 9 = 1 := by kernel_rfl
theorem Tryd.cellsStas : Tryd.prog.cellsOf 40 = 1 := by kernel_rfl
section
variable {α : Type} {s : Nat} {c : α → List Value}
theorem gcopy {w : World} {v : Value} {l : List α} {ops : Array Oper} {rest : List Oper} {o : Oper} {a : Act} {Q : Exit → Act → World → Prop} {e t bytes : Nat} {z : Value} (hgd : o.guard = none) (sl x : Operand) (hs : ∀ x, (c x).length = s)
    (hinf : (Tryd.prog.info? e).map (fun i => (i.zero, i.size, i.bytes)) = some (some z, s, bytes)) (hzs : z.cells.size = s) (hs0 : 0 < s) (ht : Tryd.prog.underlying t = some (.slice e))
    (ho : o.op = .call { callee := .builtin .append, args := #[sl, x], argTypes := #[t, t] }) (hsl : a.eval sl = .slice none 0 0) (hx : a.eval x = v)
    (hC : RLies s c w v l) (h1 : ∀ x ∈ l, ∀ u ∈ c x, u.oneCell' = true) (hN : l.length * bytes ≤ 140737488355328) (hb8 : 8 ≤ bytes) (B : Nat) (hB : B ≤ w.heap.size)
    (h : ∀ v' w', w'.ownsRow B e s v' l.length (rc c l) → Below w.heap.size w w' → wpList Tryd.prog ops Q rest (a.put o.dst v') w') : wpList Tryd.prog ops Q (o :: rest) a w := by
  obtain ⟨i0, hi, hz0, hz1, hz2⟩ := info_parts hinf
  rcases hC with ⟨rfl, rfl⟩ | ⟨ad, cap, rfl, h2, h2', h3, h4⟩
  · refine wpList_append_own_none hgd sl x t ho B e i0 s ht hi (.slice none 0 0) 0 [] hsl (World.ownsRow_nil _ _ _ _) hx (h _ _ (World.ownsRow_nil _ _ _ _) (Below.refl _ _))
  · refine wpList_append_own _ hgd sl x t ho B e i0 _ s bytes ht hi hz0 hz1 hz2 hzs hs0 (.slice none 0 0) 0 [] hsl (World.ownsRow_nil _ _ _ _) ad l.length cap (rc c l) hx (rc_len hs l) (fun j u hu => ?_) (fun u hu => ?_) ?_ (by rw [Nat.zero_add]; exact hN) hB ?_
    · have hj := (List.getElem?_eq_some_iff.1 hu).1
      rw [rc_len hs] at hj
      have hm := Nat.mod_lt j hs0
      have hd : j = j / s * s + j % s := by rw [Nat.mul_comm]; exact (Nat.div_add_mod j s).symm
      have hdl : j / s < l.length := by rw [Nat.div_lt_iff_lt_mul hs0]; exact hj
      rw [hd] at hu ⊢
      rw [rc_get hs l _ _ _ hm (List.getElem?_eq_getElem hdl)] at hu
      exact h4 _ _ (List.getElem?_eq_getElem hdl) _ _ hu
    · simp only [rc, List.mem_flatMap] at hu
      obtain ⟨y, hy, hyu⟩ := hu
      exact h1 y hy u hyu
    · have := Nat.mul_le_mul_left l.length hb8
      unfold maxLen; omega
    · intro v' w' hown hgrow _
      rw [Nat.zero_add, List.nil_append] at hown
      exact h v' w' hown ((Below.refl _ _).grown hgrow (Nat.le_refl _) (fun q hq => by cases hq))
end
/-- A deferred call that was started. -/
structure Sx where
  a : Int
  b : Int
  c : Int
def Sx.cells (x : Sx) : List Value := [.int .i64 x.a, .int .i64 x.b, .int .i64 x.c]
theorem Sx.len (x : Sx) : x.cells.length = 3 := rfl
theorem Sx.one (x : Sx) : ∀ u ∈ x.cells, u.oneCell' = true := by
  intro u hu
  simp [Sx.cells] at hu
  rcases hu with rfl | rfl | rfl <;> rfl
/-- An outcome. -/
structure Ov where
  e : Int
  out : ByteArray
  crash : ByteArray
  st : Int
  steps : Int
  L : Value
  l : List Sx
def Ov.val (o : Ov) (L : Value) : Value := .agg #[.int .i64 o.e, .string o.out, .string o.crash, .int .i64 o.st, .int .i64 o.steps, L]
structure OIn (o : Ov) : Prop where
  we : (Lit.int .i64 o.e).wf = true
  ws : (Lit.int .i64 o.st).wf = true
  so : o.out.size ≤ 140737488351232
  sc : o.crash.size ≤ 140737488351232
  sl : o.l.length * 24 ≤ 140737488351232
section
variable {H : Type} {enc : TypeId × Value → H} {W : World}
theorem sta_read {fuel : Nat} {cs : List Value} {x : DataW H × List MemPlace} (h : DataW.trod enc Tryd.prog W 0 (fun _ => true) true fuel 114 cs = some x) : ∃ e : Sx, cs = e.cells := by
  obtain ⟨xs, n, -, hx, hlen, hxl, hf⟩ := DataW.trod_struct Tryd.underlying114 h
  rw [Tryd.cellsSta] at hlen
  match xs, hxl, cs, hlen with
  | [y0, y1, y2], _, [v0, v1, v2], _ =>
    have g0 : DataW.trod enc Tryd.prog W 0 (fun _ => true) true n 3 (List.take (Tryd.prog.cellsOf 3) [v0, v1, v2]) = some y0 := hf 0 _ rfl
    rw [Tryd.cellsIntV] at g0
    have g1 : DataW.trod enc Tryd.prog W 0 (fun _ => true) true n 3 (List.take (Tryd.prog.cellsOf 3) [v1, v2]) = some y1 := hf 1 _ rfl
    rw [Tryd.cellsIntV] at g1
    have g2 : DataW.trod enc Tryd.prog W 0 (fun _ => true) true n 3 (List.take (Tryd.prog.cellsOf 3) [v2]) = some y2 := hf 2 _ rfl
    rw [Tryd.cellsIntV] at g2
    obtain ⟨n0, e0, r0, k0⟩ := DataW.trod_int Tryd.underlying3 g0
    obtain ⟨n1, e1, r1, k1⟩ := DataW.trod_int Tryd.underlying3 g1
    obtain ⟨n2, e2, r2, k2⟩ := DataW.trod_int Tryd.underlying3 g2
    simp at e0 e1 e2
    subst e0; subst e1; subst e2
    exact ⟨⟨n0, n1, n2⟩, rfl⟩
theorem stas_came {fuel : Nat} {v : Value} {x : DataW H × List MemPlace} (hf : DataW.trod enc Tryd.prog W 0 (fun _ => true) true fuel 40 [v] = some x) (hw : ∀ n ∈ x.1.weights Tryd.prog 40, n ≤ 140737488351232) :
    ∃ l : List Sx, RLies 3 Sx.cells W v l ∧ l.length * 24 ≤ 140737488351232 := by
  rcases Deep.open_slice Tryd.underlying40 hf with ⟨hcs, hx⟩ | ⟨a, len, cap, m, n, D, Pl, hcs, _, hl, hm, hmm, hx, hcell⟩
  · simp at hcs
    subst hcs
    exact ⟨[], .inl ⟨rfl, rfl⟩, by simp⟩
  · simp at hcs
    subst hcs
    simp only [if_true] at hmm
    subst hmm
    rw [Tryd.cellsSta] at hcell
    obtain ⟨x1, x2⟩ := x
    simp only [Prod.mk.injEq] at hx
    obtain ⟨rfl, -⟩ := hx
    simp only [DataW.weights, Tryd.underlying40, Tryd.bytesSta, List.length_map, List.length_range, List.mem_cons, List.mem_append] at hw
    have hn := hw _ (.inl rfl)
    have each : ∀ i, i < len → ∃ e : Sx, ∀ j u, e.cells[j]? = some u → W.cell? ((a.add (i * 3)).add j) = some u := fun i hi => by
      obtain ⟨cs', h1, h2⟩ := hcell i (by omega)
      obtain ⟨_, hlen, hc⟩ := World.cells?_some h1
      obtain ⟨e, rfl⟩ := sta_read h2
      refine ⟨e, fun j u hu => ?_⟩
      have hj := (List.getElem?_eq_some_iff.1 hu).1
      rw [hc j (by rw [hlen] at hj; exact hj), hu]
    haveI : Inhabited Sx := ⟨⟨0, 0, 0⟩⟩
    obtain ⟨f, hfun⟩ := Deep.choose_lt each
    have hL : ((List.range len).map f).length = len := by simp
    refine ⟨(List.range len).map f, .inr ⟨a, m, by rw [hL], by rw [hL]; exact hl, hm, fun hne => ?_, fun k e hk j u hu => ?_⟩, by rw [hL]; omega⟩
    · have h0 : 0 < len := by
        rcases Nat.eq_zero_or_pos len with h | h
        · exfalso; apply hne; rw [h]; rfl
        · exact h
      have := World.cell?_spot (hfun 0 h0 0 _ rfl)
      simpa [Addr.add] using this
    · have hkl := (List.getElem?_eq_some_iff.1 hk).1
      rw [hL] at hkl
      have hk2 : ((List.range len).map f)[k]? = some (f k) := by
        rw [List.getElem?_map, List.getElem?_range hkl]; rfl
      rw [hk2] at hk
      cases hk
      have := hfun k hkl j u hu
      rwa [Deep.add_add] at this
theorem ocame_of {r : Reach} {b0 : Nat} {v : Value} {d : DataW H} {p : List MemPlace} {ts : List TypeId} {ds : List (DataW H)} {j : Nat}
    (hv : Value.okWide Tryd.prog W r b0 42 v) (h : DataW.Trod enc Tryd.prog W 0 (fun _ => true) true 42 v d p)
    (hsz : (DataW.weightsEach Tryd.prog ts ds).all (· ≤ reachBytes) = true) (ht : ts[j]? = some 42) (hd : ds[j]? = some d) :
    ∃ o : Ov, v = o.val o.L ∧ OIn o ∧ RLies 3 Sx.cells W o.L o.l := by
  obtain ⟨cs, rfl, hcsz⟩ := okWide_struct Tryd.underlying42 hv
  rw [Tryd.cellsOut] at hcsz
  have hw : ∀ n ∈ d.weights Tryd.prog 42, n ≤ 140737488351232 := fun n hn => by
    have := List.all_eq_true.1 hsz _ (DataW.weights_mem_each ht hd _ hn)
    exact of_decide_eq_true this
  obtain ⟨l⟩ := cs
  match l, hcsz with
  | [c0, c1, c2, c3, c4, c5], _ =>
    obtain ⟨fuel, hf0⟩ := h
    obtain ⟨xs, n, -, hx, hlen, hxl, hf⟩ := DataW.trod_struct Tryd.underlying42 hf0
    match xs, hxl with
    | [y0, y1, y2, y3, y4, y5], _ =>
      have g0 : DataW.trod enc Tryd.prog W 0 (fun _ => true) true n 3 ((List.drop 0 (Value.agg #[c0, c1, c2, c3, c4, c5]).cells.toList).take (Tryd.prog.cellsOf 3)) = some y0 := hf 0 _ rfl
      rw [Tryd.cellsIntV] at g0
      have g0 : DataW.trod enc Tryd.prog W 0 (fun _ => true) true n 3 [c0] = some y0 := g0
      have g1 : DataW.trod enc Tryd.prog W 0 (fun _ => true) true n 9 ((List.drop 1 (Value.agg #[c0, c1, c2, c3, c4, c5]).cells.toList).take (Tryd.prog.cellsOf 9)) = some y1 := hf 1 _ rfl
      rw [Tryd.cellsStrO] at g1
      have g1 : DataW.trod enc Tryd.prog W 0 (fun _ => true) true n 9 [c1] = some y1 := g1
      have g2 : DataW.trod enc Tryd.prog W 0 (fun _ => true) true n 9 ((List.drop 2 (Value.agg #[c0, c1, c2, c3, c4, c5]).cells.toList).take (Tryd.prog.cellsOf 9)) = some y2 := hf 2 _ rfl
      rw [Tryd.cellsStrO] at g2
      have g2 : DataW.trod enc Tryd.prog W 0 (fun _ => true) true n 9 [c2] = some y2 := g2
      have g3 : DataW.trod enc Tryd.prog W 0 (fun _ => true) true n 3 ((List.drop 3 (Value.agg #[c0, c1, c2, c3, c4, c5]).cells.toList).take (Tryd.prog.cellsOf 3)) = some y3 := hf 3 _ rfl
      rw [Tryd.cellsIntV] at g3
      have g3 : DataW.trod enc Tryd.prog W 0 (fun _ => true) true n 3 [c3] = some y3 := g3
      have g4 : DataW.trod enc Tryd.prog W 0 (fun _ => true) true n 3 ((List.drop 4 (Value.agg #[c0, c1, c2, c3, c4, c5]).cells.toList).take (Tryd.prog.cellsOf 3)) = some y4 := hf 4 _ rfl
      rw [Tryd.cellsIntV] at g4
      have g4 : DataW.trod enc Tryd.prog W 0 (fun _ => true) true n 3 [c4] = some y4 := g4
      have g5 : DataW.trod enc Tryd.prog W 0 (fun _ => true) true n 40 ((List.drop 5 (Value.agg #[c0, c1, c2, c3, c4, c5]).cells.toList).take (Tryd.prog.cellsOf 40)) = some y5 := hf 5 _ rfl
      rw [Tryd.cellsStas] at g5
      have g5 : DataW.trod enc Tryd.prog W 0 (fun _ => true) true n 40 [c5] = some y5 := g5
      obtain ⟨n0, e0, r0, k0⟩ := DataW.trod_int Tryd.underlying3 g0
      obtain ⟨s1, e1, r1, k1⟩ := DataW.trod_string Tryd.underlying9 g1
      obtain ⟨s2, e2, r2, k2⟩ := DataW.trod_string Tryd.underlying9 g2
      obtain ⟨n3, e3, r3, k3⟩ := DataW.trod_int Tryd.underlying3 g3
      obtain ⟨n4, e4, r4, k4⟩ := DataW.trod_int Tryd.underlying3 g4
      simp at e0 e1 e2 e3 e4
      subst e0; subst e1; subst e2; subst e3; subst e4
      simp only [List.map_cons, List.map_nil, Prod.mk.injEq] at hx
      obtain ⟨rfl, -⟩ := hx
      rw [r1, r2] at hw
      obtain ⟨l5, h5, h6⟩ := stas_came g5 (fun q hq => hw q (by
        simp only [DataW.weights, Tryd.underlying42, Array.toList, List.map_cons, List.map_nil, DataW.weightsEach, List.mem_append]
        simp [hq]))
      refine ⟨⟨n0, s1, s2, n3, n4, c5, l5⟩, rfl, ⟨k0, k3, ?_, ?_, h6⟩, h5⟩
      · have := hw s1.data.toList.length (by simp [DataW.weights, Tryd.underlying42, DataW.weightsEach])
        rw [bsize_list'] at this
        exact this
      · have := hw s2.data.toList.length (by simp [DataW.weights, Tryd.underlying42, DataW.weightsEach])
        rw [bsize_list'] at this
        exact this
end
end Go.Proofs.YtncjaohiimenaaaDoor
