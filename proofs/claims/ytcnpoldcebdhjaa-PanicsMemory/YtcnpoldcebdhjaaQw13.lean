/- What comes of an event. -/
import Derived.Test.YtcnpoldcebdhjaaQw12
import Derived.Laws.AppendOwnNone
namespace Go.Proofs.Ytcnpoldcebdhjaa
open Go.ChangeShapes Go.WideShapes Go.ChangeAt Go.RowKit
set_option maxRecDepth 100000
set_option linter.unusedSimpArgs false
set_option linter.unusedVariables false
/-- An event, but for its value's list. -/
structure Ev where
  k : Int
  n : Int
  vk : Int
  vn : Int
  vs : ByteArray
def Ev.val (e : Ev) (lo : Option Addr) (ln lc : Nat) : Value := .agg #[.int .i64 e.k, .int .i64 e.n, .int .i64 e.vk, .int .i64 e.vn, .string e.vs, .slice lo ln lc]
/-- Append, at an operation: where the new row lies is told too. -/
theorem at_append {P : Program} (w : World) {o : Oper} {a : Act} {K : Act → World → Prop} {Q : Exit → Act → World → Prop} (s x : Operand) (t : TypeId) (ho : o.op = .call { callee := .builtin .append, args := #[s, x], argTypes := #[t, t] })
    (base : Nat) (e : TypeId) (i : TypeInfo) (z : Value) (size bytes : Nat) (ht : P.underlying t = some (.slice e)) (hi : P.info? e = some i) (hz : i.zero = some z) (hsize : i.size = size) (hby : i.bytes = bytes) (hzs : z.cells.size = size) (hsz : 0 < size)
    (v : Value) (n : Nat) (xs : List Value) (hs : a.eval s = v) (hown : w.ownsRow base e size v n xs)
    (ad : Addr) (m c : Nat) (news : List Value) (hx : a.eval x = .slice (some ad) m c) (hl : news.length = m * size) (hnews : ∀ j u, news[j]? = some u → w.cell? (ad.add j) = some u) (h1 : ∀ u ∈ news, u.oneCell' = true)
    (h63 : n + m ≤ maxLen) (hbytes : (n + m) * bytes ≤ 140737488355328) (hbase : base ≤ w.heap.size)
    (h : ∀ v' w', w'.ownsRow base e size v' (n + m) (xs ++ news) → w.grownBy w' v.ownBlock → (v'.ownBlock = v.ownBlock ∨ v'.ownBlock = some w.heap.size) → K (a.put o.dst v') w') : o.wp P a w K Q := by
  obtain ⟨v', w', hr, h2, h3, _, h5⟩ := run_append_own_at (P := P) w base t o.type e i z size bytes ht hi hz hsize hby hzs hsz v n xs hown ad m c news hl hnews h1 h63 hbytes hbase
  unfold Oper.wp execOp
  simp only [ho, resolve, invoke, builtin, Sem.run_bind, Sem.run_pure, Result.andThen_ok, List.map_toArray, List.map_cons, List.map_nil, hs, hx, hr]
  exact h v' w' h2 h3 h5
theorem Hid.mk' {P : Prop} (h : P) : Hid P := h
def noOne (xs : List Fe) (v : Value) : Prop := ∀ a ∈ xs, a.L.ownBlock = none ∨ a.L.ownBlock ≠ v.ownBlock
def isI1 (B : Nat) (n : Int) : Value → World → Prop := fun v w => w.ownsRow B 3 1 v 1 [.int .i64 n]
theorem stab_i1 (B : Nat) (n : Int) : Stab (isI1 B n) := fun v w w' hb h => row_below h hb
def isI2 (B : Nat) (l : List Int) (xs : List Fe) : Value → World → Prop := fun v w => IOwn B w v l ∧ noOne xs v
theorem stab_i2 (B : Nat) (l : List Int) (xs : List Fe) : Stab (isI2 B l xs) := fun v w w' hb h => ⟨row_below h.1 hb, h.2⟩
theorem iapp {o : Oper} {a : Act} {K : Act → World → Prop} {Q : Exit → Act → World → Prop} {u : World} {B : Nat} {v v2 : Value} {l : List Int} {x : Int} (sl y : Operand)
    (ho : o.op = .call { callee := .builtin .append, args := #[sl, y], argTypes := #[30, 30] }) (hv : a.eval sl = v) (hx : a.eval y = v2) (h : IOwn B u v l) (h2 : u.ownsRow B 3 1 v2 1 [.int .i64 x]) (hB : B ≤ u.heap.size) (hz : l.length ≤ 1000000)
    (k : ∀ v' u', IOwn B u' v' (l ++ [x]) → u.grownBy u' v.ownBlock → (v'.ownBlock = v.ownBlock ∨ v'.ownBlock = some u.heap.size) → Below B u u' → K (a.put o.dst v') u') : o.wp Try.prog a u K Q := by
  obtain ⟨i0, hi, hz0, hz1, hz2⟩ := info_parts Try.infoIntP
  rcases h2.2 with ⟨h0, h1⟩ | ⟨g, cap, cur, rfl, hg1, hg2, hcap, hmax, hcs, htk⟩
  · simp at h1
  · refine at_append u sl y 30 ho B 3 i0 _ 1 8 Try.underlying30 hi hz0 hz1 hz2 rfl (by decide) v l.length _ hv h ⟨g, 0, none⟩ 1 cap [.int .i64 x] hx rfl (fun j w hj => ?_) (fun w hw => by simp at hw; subst hw; rfl) (by unfold maxLen; omega) (by omega) hB ?_
    · have hj3 := (List.getElem?_eq_some_iff.1 hj).1
      rw [add_plain, Nat.zero_add, h2.cellAt j (by simpa using hj3)]
      exact hj
    · intro v' u' hown hgrow hat
      refine k v' u' ?_ hgrow hat ((Below.refl _ _).grown hgrow hB (fun q hq => (h.lt q hq).1))
      unfold IOwn
      rw [List.length_append, List.length_singleton, List.map_append]
      exact hown
/-- The work, but for what the last activation keeps. -/
structure Wd (B p : Nat) (w : World) (F P T : Value) (xs : List Fe) (f : Fr) (L : Value) (r : List Fr) (st : St) (td : List Tl) : Prop where
  box : w.heap[p]? = some (.cells #[F, P, .int .i64 st.next, .int .i64 st.ser, .int .i64 st.fin, .int .i64 st.stat, T] 62 (0, 0))
  low : B ≤ p
  row : w.ownsRow B 53 5 F (xs ++ [Fe.mk f L]).length (rc Fe.cells (xs ++ [Fe.mk f L]))
  own : ∀ e ∈ xs, IOwn B w e.L e.x.df.reverse
  apart : xs.Pairwise noTwo
  xm : xs.map (·.x) = r.reverse
  ps : w.ownsRow B 55 7 P st.ps.reverse.length (rc Pn.cells st.ps.reverse)
  td : w.ownsRow B 58 7 T td.length (rc Tl.cells td)
theorem Wk.noOne {B p : Nat} {w : World} {F P T : Value} {xs : List Fe} {f : Fr} {L : Value} {st : St} {td : List Tl} (h : Wk B p w F P T (xs ++ [⟨f, L⟩]) st td) : Go.Proofs.Ytcnpoldcebdhjaa.noOne xs L := fun a ha => (List.pairwise_append.1 h.fr.apart).2.2 a ha ⟨f, L⟩ (by simp)
theorem Wk.grownD {B p : Nat} {w w' : World} {F P T : Value} {xs : List Fe} {f : Fr} {L : Value} {r : List Fr} {st : St} {td : List Tl} (h : Wk B p w F P T (xs ++ [⟨f, L⟩]) st td) (hm : xs.map (·.x) = r.reverse) (hg : w.grownBy w' L.ownBlock) : Wd B p w' F P T xs f L r st td := by
  have hL : IOwn B w L f.df.reverse := h.fr.own ⟨f, L⟩ (by simp)
  have ht := row_typed hL
  have ht' : ∀ g, L.ownBlock = some g → ∃ cs z, w.heap[g]? = some (.cells cs 3 z) := fun g hg => by obtain ⟨cs, h2⟩ := ht g hg; exact ⟨_, _, h2⟩
  refine ⟨?_, h.low, row_grown h.fr.row hg ht' (by decide), fun e he => World.ownsRow.kept (h.fr.own e (List.mem_append_left _ he)) hg (h.noOne e he), (List.pairwise_append.1 h.fr.apart).1, hm, row_grown h.ps hg ht' (by decide), row_grown h.td hg ht' (by decide)⟩
  rw [hg.block p h.lt (fun e => by obtain ⟨cs, z, h2⟩ := ht' p e.symm; rw [h.box] at h2; simp at h2)]
  exact h.box
theorem Wd.put {B p g n cap : Nat} {w : World} {P T L L' : Value} {xs : List Fe} {f f' : Fr} {r : List Fr} {st : St} {td : List Tl} (h : Wd B p w (.slice (some ⟨g, 0, none⟩) n cap) P T xs f L r st td) (hc : Fe.cells ⟨f', L'⟩ = (Fe.cells ⟨f, L⟩).set 4 L') (hL : IOwn B w L' f'.df.reverse) (ha : Go.Proofs.Ytcnpoldcebdhjaa.noOne xs L') :
    WkI B p (w.setCell ⟨g, r.length * 5 + 4, none⟩ L') { st with fr := f' :: r } td ∧ Below B w (w.setCell ⟨g, r.length * 5 + 4, none⟩ L') := by
  have hl : xs.length = r.length := by have := congrArg List.length h.xm; simpa using this
  have hk : (xs ++ [Fe.mk f L])[r.length]? = some ⟨f, L⟩ := by rw [← hl, List.getElem?_append_right (Nat.le_refl _)]; simp
  obtain ⟨g', cap', hv, hB, -, -, -, cur, hcur⟩ := own_at Fe.len h.row hk
  cases hv
  have hoth : ∀ b, b ≠ g → b < w.heap.size → (w.setCell ⟨g, r.length * 5 + 4, none⟩ L').heap[b]? = w.heap[b]? := fun b hb _ => heap_setCell_other _ _ _ _ (by simpa using hb)
  refine ⟨⟨.slice (some ⟨g, 0, none⟩) (xs ++ [Fe.mk f L]).length cap, P, T, xs ++ [⟨f', L'⟩], ?_, h.low, ⟨?_, fun e he => ?_, ?_, ?_⟩, row_far h.ps hcur (by decide) hoth, row_far h.td hcur (by decide) hoth⟩, (Below.refl _ _).setCell hB L'⟩
  · rw [hoth p (fun e => by subst e; have := h.box; rw [hcur] at this; simp at this) (Array.getElem?_eq_some_iff.1 h.box).1]
    exact h.box
  · have h3 := own_set Fe.len h.row (u := L') hk (by decide) hc
    rw [← hl, List.set_append_right _ _ (Nat.le_refl _), Nat.sub_self, List.set_cons_zero] at h3
    simp only [List.length_append, List.length_singleton] at h3 ⊢
    rw [← hl]
    exact h3
  · rcases List.mem_append.1 he with h1 | h1
    · exact row_far (h.own e h1) hcur (by decide) hoth
    · simp at h1; subst h1
      exact row_far hL hcur (by decide) hoth
  · rw [List.pairwise_append]
    refine ⟨h.apart, List.pairwise_singleton _ _, fun a ha' b hb => ?_⟩
    simp at hb; subst hb
    exact ha a ha'
  · rw [List.map_append, h.xm, List.reverse_cons]; rfl
def and255 (n : Int) : Int := bits BinOp.and IntKind.i64 n 255
/-- The error of an event. -/
def St.code (st : St) (e : Ev) : Int := if st.fin ≠ 0 ∨ st.fr = [] then 17 else if e.k = 1 ∨ e.k = 2 ∨ e.k = 3 ∨ e.k = 5 ∨ e.k = 6 ∨ (e.k = 4 ∧ (e.vk = 1 ∨ e.vk = 3 ∨ e.vk = 5)) then 0 else 13
/-- What comes of an event that is not refused. -/
def St.step (st : St) (td : List Tl) (e : Ev) : St × List Tl :=
  match st.fr with
  | [] => (st, td)
  | f :: r =>
    if e.k = 1 then (st.callS.1, td ++ st.callS.2)
    else if e.k = 2 then unwind (r.length + 2) { st with fr := { f with ph := 1 } :: r } td
    else if e.k = 3 then ({ st with fr := { f with df := e.n :: f.df } :: r }, td)
    else if e.k = 4 then unwind (r.length + 2) (st.panicS (Pv.of e.vk e.vn e.vs) f r) td
    else if e.k = 5 then ((st.recS f).1, td ++ (st.recS f).2)
    else (st.done 3 (and255 e.n), td ++ [tEnd 3])
structure TakeOk (st : St) (td : List Tl) : Prop where
  fr : st.fr.length ≤ 1000
  df : ∀ f ∈ st.fr, f.df.length ≤ 900000
  ps : st.ps.length ≤ 800000
  td : td.length + 2 * st.fr.length ≤ 800000
  n0 : 0 ≤ st.next
  n1 : st.next ≤ 900000
  s0 : 0 ≤ st.ser
  s1 : st.ser ≤ 900000
  rm : ∀ f r, st.fr = f :: r → f.mark = 2 → st.ps ≠ []
theorem code_ok {st : St} {e : Ev} {f : Fr} {r : List Fr} (h0 : st.fin = 0) (hf : st.fr = f :: r) (h : e.k = 1 ∨ e.k = 2 ∨ e.k = 3 ∨ e.k = 5 ∨ e.k = 6 ∨ (e.k = 4 ∧ (e.vk = 1 ∨ e.vk = 3 ∨ e.vk = 5))) : st.code e = 0 := by
  unfold St.code
  rw [if_neg (by rw [hf]; simp [h0]), if_pos h]
theorem code_no {st : St} {e : Ev} {f : Fr} {r : List Fr} (h0 : st.fin = 0) (hf : st.fr = f :: r) (h : ¬ (e.k = 1 ∨ e.k = 2 ∨ e.k = 3 ∨ e.k = 5 ∨ e.k = 6 ∨ (e.k = 4 ∧ (e.vk = 1 ∨ e.vk = 3 ∨ e.vk = 5)))) : st.code e = 13 := by
  unfold St.code
  rw [if_neg (by rw [hf]; simp [h0]), if_neg h]
set_option maxHeartbeats 16000000 in
theorem own_takeEv (B p : Nat) (st : St) (td : List Tl) (e : Ev) (lo : Option Addr) (ln lc : Nat) (w : World) (h : WkI B p w st td) (hB0 : B ≤ w.heap.size) (hok : TakeOk st td) :
    Calls Try.prog 28 #[.pointer (some ⟨p, 0, none⟩), e.val lo ln lc] w fun x w' => x = .returned (.int .i64 (st.code e)) ∧ (st.code e = 0 → WkI B p w' (st.step td e).1 (st.step td e).2) ∧ Below B w w' := by
  have HI : Hid (WkI B p w st td) := h
  obtain ⟨F, P, T, fes, h⟩ := h
  have HB0 : Hid (B ≤ w.heap.size) := hB0
  have HOK : Hid (TakeOk st td) := hok
  obtain ⟨w0, hw0⟩ : ∃ x, x = w.alloc (.cells #[.int .i64 e.k, .int .i64 e.n, .int .i64 e.vk, .int .i64 e.vn, .string e.vs, .slice lo ln lc] 34) := ⟨_, rfl⟩
  obtain ⟨eb, heb⟩ : ∃ x, x = w.heap.size := ⟨_, rfl⟩
  have HW : Hid (Below w.heap.size w w0) := by subst hw0; exact (Below.refl _ _).alloc (Nat.le_refl _) _
  have HG : Hid (w0.heap[eb]? = some (.cells #[.int .i64 e.k, .int .i64 e.n, .int .i64 e.vk, .int .i64 e.vn, .string e.vs, .slice lo ln lc] 34 (0, 0))) := by subst hw0; subst heb; exact box_stays (Below.refl _ _)
  have HBW : Hid (Below B w w0) := HW.out.mono hB0
  have HBL : Hid (B ≤ w0.heap.size) := Nat.le_trans hB0 HW.out.size
  have HI0 : Hid (WkI B p w0 st td) := HI.out.below HW.out
  have HH : Hid (Wk B p w0 F P T fes st td) := h.below HW.out
  obtain ⟨⟨x0, -, -, -, x4, -⟩, -⟩ := box7 h.box
  obtain ⟨⟨y0, -, -, -, y4, -⟩, -⟩ := box7 HH.out.box
  have hp := h.lt
  obtain ⟨⟨b0, b1, b2, b3, b4, b5⟩, -⟩ := box6 HG.out
  have hfl : fes.length = st.fr.length := by rw [h.fr.len, List.length_reverse]
  obtain ⟨fo, fc, hF⟩ := row_slice h.fr.row
  rw [hfl] at hF
  subst hF
  subst hw0
  subst heb
  clear h hB0 hok hfl
  unfold Ev.val
  by_cases hfin : st.fin = 0
  · rcases hfr : st.fr with _ | ⟨f, r⟩
    · have HC : Hid (st.code e = 17) := by show st.code e = 17; unfold St.code; rw [if_pos (.inr hfr)]
      rw [hfr] at x0 y0
      rw [hfin] at x4 y4
      rw [HC.out]
      clear hfin hfr
      go_enter Try.func28, Try.ntmps28
      go_wp2_with fail
      go_ret
      exact ⟨rfl, (fun h => by cases h), HBW.out⟩
    · rw [hfin] at x4 y4
      rw [hfr] at x0 y0
      simp only [List.length_cons] at x0 y0
      have HFIN : Hid (st.fin = 0) := hfin
      have HFR : Hid (st.fr = f :: r) := hfr
      have hr1 : r.length ≤ 1000000 := by have := HOK.out.fr; rw [hfr] at this; simp at this; omega
      have hfi : ∀ (ph : Int), Fine { st with fr := { f with ph := ph } :: r } td := fun ph => by
        have ho := HOK.out
        have h1 := ho.fr; have h2 := ho.td; have h3 := ho.ps; have h4 := ho.n1
        rw [hfr] at h1 h2
        refine ⟨h1, fun x hx => ?_, by show st.ps.length ≤ 1000000; omega, h2, ho.n0, by show st.next ≤ 1000000; omega, by simp⟩
        have hd := ho.df
        rw [hfr] at hd
        rcases List.mem_cons.1 hx with rfl | hx
        · have := hd f (by simp); show f.df.length ≤ 1000000; omega
        · have := hd x (by simp [hx]); omega
      have HFI : Hid (∀ (ph : Int), Fine { st with fr := { f with ph := ph } :: r } td) := hfi
      clear hfin hfr hfi
      obtain ⟨k, n, vk, vn, vs⟩ := e
      simp only at *
      have HF00 : Hid (st.fr.length = r.length + 1) := by rw [Hid.out HFR]; rfl
      have hTD : td.length ≤ 800000 := by have := HOK.out.td; omega
      have HTD : Hid (td.length ≤ 800000) := hTD
      clear hTD
      by_cases hk1 : k = 1
      · subst hk1
        have HC : Hid (st.code ⟨1, n, vk, vn, vs⟩ = 0) := code_ok HFIN.out HFR.out (.inl rfl)
        rw [HC.out]
        go_enter Try.func28, Try.ntmps28
        go_wp2_with fail
        refine (own_call B p st td _ HI0.out HBL.out (by have := HTD.out; omega) HOK.out.n0 (by have := HOK.out.n1; omega)).mono ?_
        rintro x w1 ⟨rfl, h1, hb1⟩
        have HF : Hid (WkI B p w1 (st.step td ⟨1, n, vk, vn, vs⟩).1 (st.step td ⟨1, n, vk, vn, vs⟩).2 ∧ Below B w w1) := by
          unfold St.step; rw [HFR.out]; exact ⟨h1, HBW.out.trans hb1⟩
        clear h1 hb1
        go_wp2_with fail
        go_ret
        exact ⟨rfl, fun _ => HF.out.1, HF.out.2⟩
      have k1b : (k == 1) = false := by simpa using hk1
      by_cases hk2 : k = 2
      · subst hk2
        have HC : Hid (st.code ⟨2, n, vk, vn, vs⟩ = 0) := code_ok HFIN.out HFR.out (.inr (.inl rfl))
        rw [HC.out]
        obtain ⟨g, hrun, hset⟩ := HH.out.setPh HFR.out 1 hr1
        have HRUN := Hid.mk' (hrun _ (Below.refl _ _))
        have HSET := Hid.mk' hset
        clear hrun hset
        go_enter Try.func28, Try.ntmps28
        go_wp2_with fail
        refine HRUN.out.mono ?_
        rintro x w1 ⟨rfl, hb1⟩
        obtain ⟨y3, yf, HS⟩ := HSET.out w1 hb1
        have HB1 : Hid (Below B w (w1.setCell ⟨g, r.length * 5 + 3, none⟩ (.int .i64 1))) := (HBW.out.trans (hb1.mono HBL.out)).trans HS.out.2
        have HK1 : Hid (WkI B p (w1.setCell ⟨g, r.length * 5 + 3, none⟩ (.int .i64 1)) { st with fr := { f with ph := 1 } :: r } td) := HS.out.1
        clear hb1 HS
        go_wp2_with fail
        refine (own_unwind B p { st with fr := { f with ph := 1 } :: r } td _ HK1.out (Nat.le_trans HB0.out HB1.out.size) (HFI.out 1)).mono ?_
        rintro x w2 ⟨rfl, h2, hb2⟩
        have HF : Hid (WkI B p w2 (st.step td ⟨2, n, vk, vn, vs⟩).1 (st.step td ⟨2, n, vk, vn, vs⟩).2 ∧ Below B w w2) := by
          unfold St.step; rw [HFR.out]; exact ⟨h2, HB1.out.trans hb2⟩
        clear h2 hb2
        go_wp2_with fail
        go_ret
        exact ⟨rfl, fun _ => HF.out.1, HF.out.2⟩
      have k2b : (k == 2) = false := by simpa using hk2
      by_cases hk3 : k = 3
      · subst hk3
        have HC : Hid (st.code ⟨3, n, vk, vn, vs⟩ = 0) := code_ok HFIN.out HFR.out (.inr (.inr (.inl rfl)))
        rw [HC.out]
        obtain ⟨w0, hw0⟩ : ∃ x, x = w.alloc (.cells #[.int .i64 3, .int .i64 n, .int .i64 vk, .int .i64 vn, .string vs, .slice lo ln lc] 34) := ⟨_, rfl⟩
        have hk0 := HH.out
        rw [← hw0] at hk0
        have HL0 : Hid (B ≤ w0.heap.size) := by rw [hw0]; exact HBL.out
        have HB0' : Hid (Below B w w0) := by rw [hw0]; exact HBW.out
        obtain ⟨g, cap, xs, L, hF, rfl, hxl, hxm, -, hg, ⟨-, -, -, -, c4⟩, hz, hown⟩ := hk0.top HFR.out
        obtain ⟨Lo, Lc, rfl⟩ := IOwn.shape hown
        rw [hF] at hk0
        have HRUN : Hid (∀ u, Below w0.heap.size w0 u → Calls Try.prog 42 #[.pointer (some ⟨p, 0, none⟩)] u fun e w' => e = .returned (.pointer (some ⟨g, r.length * 5, none⟩)) ∧ Below u.heap.size u w') := fun u hu => own_running p g r.length cap _ _ _ _ _ _ u hr1 (hk0.below hu).box
        have HK0 : Hid (∀ u, Below w0.heap.size w0 u → Wk B p u (.slice (some ⟨g, 0, none⟩) (r.length + 1) cap) P T (xs ++ [⟨f, .slice Lo f.df.reverse.length Lc⟩]) st td) := fun u hu => hk0.below hu
        have HXM : Hid (xs.map (·.x) = r.reverse) := hxm
        have HDL : Hid (f.df.reverse.length ≤ 1000000) := by have := HOK.out.df f (by rw [Hid.out HFR]; simp); show f.df.reverse.length ≤ 1000000; simp; omega
        have HDR : Hid (f.df.reverse ++ [n] = (n :: f.df).reverse) := by show _ = _; rw [List.reverse_cons]
        obtain ⟨l2, hl2⟩ : ∃ x, x = (n :: f.df).reverse := ⟨_, rfl⟩
        rw [← hl2] at HDR
        have HL2 : Hid (l2 = (n :: f.df).reverse) := hl2
        obtain ⟨LL, hLL⟩ : ∃ x, x = f.df.reverse.length := ⟨_, rfl⟩
        have HLL : Hid (LL = f.df.reverse.length) := hLL
        rw [← hLL] at HK0 hown
        have HBX0 : Hid (∀ u, Below w0.heap.size w0 u → u.heap[w.heap.size]? = some (.cells #[.int .i64 3, .int .i64 n, .int .i64 vk, .int .i64 vn, .string vs, .slice lo ln lc] 34 (0, 0))) := fun u hu => by rw [hw0] at hu; exact box_stays hu
        subst hw0
        clear hk0 hxl hxm c4 hz hown hF hl2 hLL
        go_enter Try.func28, Try.ntmps28
        go_wp2_with fail
        refine (HRUN.out _ (Below.refl _ _)).mono ?_
        rintro x w1 ⟨rfl, hb1⟩
        have HB1 : Hid (Below _ _ w1) := hb1
        have HK1 := Hid.mk' (HK0.out w1 hb1)
        have HBX1 := Hid.mk' (HBX0.out w1 hb1)
        have HBW1 : Hid (Below B w w1) := HB0'.out.trans (hb1.mono HL0.out)
        obtain ⟨eb, heb⟩ : ∃ x, x = w.heap.size := ⟨_, rfl⟩
        rw [← heb] at HBX1
        clear hb1
        go_wp2_with fail
        rw [← heb]
        clear heb x0 x4 y0 y4 hp b0 b1 b2 b3 b4 b5
        have hl : AllStab [isV (.pointer (some ⟨g, r.length * 5, none⟩)), isV (.pointer (some ⟨g, r.length * 5, none⟩)), isV (.pointer (some ⟨g, r.length * 5, none⟩)), isV (.pointer (some ⟨g, r.length * 5 + 4, none⟩)), isV (.slice Lo LL Lc), isV (.pointer (some ⟨eb, 1, none⟩)), isV (.int .i64 n), isI1 B n, isI2 B l2 xs, isV (.pointer (some ⟨g, r.length * 5, none⟩)), isV (.pointer (some ⟨g, r.length * 5 + 4, none⟩)), anyV] := ⟨stab_is _, stab_is _, stab_is _, stab_is _, stab_is _, stab_is _, stab_is _, stab_i1 _ _, stab_i2 _ _ _, stab_is _, stab_is _, stab_any, trivial⟩
        refine wp_joint (JB [isV (.pointer (some ⟨g, r.length * 5, none⟩)), isV (.pointer (some ⟨g, r.length * 5, none⟩)), isV (.pointer (some ⟨g, r.length * 5, none⟩)), isV (.pointer (some ⟨g, r.length * 5 + 4, none⟩)), isV (.slice Lo LL Lc), isV (.pointer (some ⟨eb, 1, none⟩)), isV (.int .i64 n), isI1 B n, isI2 B l2 xs, isV (.pointer (some ⟨g, r.length * 5, none⟩)), isV (.pointer (some ⟨g, r.length * 5 + 4, none⟩)), anyV] ([99, 99, 99, 99, 99, 99, 99, 8, 11, 99, 99, 99].getD · 99) (fun d f2 u => (d 11 = false → (d 8 = false → u.heap[eb]? = some (.cells #[.int .i64 3, .int .i64 n, .int .i64 vk, .int .i64 vn, .string vs, .slice lo ln lc] 34 (0, 0)) ∧ Wk B p u (.slice (some ⟨g, 0, none⟩) (r.length + 1) cap) P T (xs ++ [⟨f, .slice Lo LL Lc⟩]) st td) ∧ (d 8 = true → Wd B p u (.slice (some ⟨g, 0, none⟩) (r.length + 1) cap) P T xs f (.slice Lo LL Lc) r st td)) ∧ (d 11 = true → WkI B p u { st with fr := { f with df := n :: f.df } :: r } td)) B w1) (by kernel_rfl) (by kernel_rfl) (by kernel_rfl) (fun f => ⟨(Below.refl _ _).drew, (Nat.le_trans HB0.out HBW1.out.size), rfl, (fun i h _ => by cases h), ⟨fun _ => ⟨fun _ => ⟨HBX1.out, HK1.out.below (Below.refl _ _).drew⟩, fun h => by cases h⟩, fun h => by cases h⟩⟩) ?_ ?_
        · refine stepsOK5_cons (fun f2 d u hJ hn hd hno K hK => ?_) (stepsOK5_cons (fun f2 d u hJ hn hd hno K hK => ?_) (stepsOK5_cons (fun f2 d u hJ hn hd hno K hK => ?_) (stepsOK5_cons (fun f2 d u hJ hn hd hno K hK => ?_) (stepsOK5_cons (fun f2 d u hJ hn hd hno K hK => ?_) (stepsOK5_cons (fun f2 d u hJ hn hd hno K hK => ?_) (stepsOK5_cons (fun f2 d u hJ hn hd hno K hK => ?_) (stepsOK5_cons (fun f2 d u hJ hn hd hno K hK => ?_) (stepsOK5_cons (fun f2 d u hJ hn hd hno K hK => ?_) (stepsOK5_cons (fun f2 d u hJ hn hd hno K hK => ?_) (stepsOK5_cons (fun f2 d u hJ hn hd hno K hK => ?_) (stepsOK5_cons (fun f2 d u hJ hn hd hno K hK => ?_) stepsOK5_nil)))))))))))
          · refine wanted_on rfl ?_
            simp only [putAll, Act.put, List.setIfInBounds_toArray, List.set_cons_zero, List.set_cons_succ] at hK ⊢
            go_simp
            exact hK _ _ _ rfl (hJ.grow hl (by decide) (Below.refl _ _) rfl hJ.more)
          · refine wanted_on rfl ?_
            simp only [putAll, Act.put, List.setIfInBounds_toArray, List.set_cons_zero, List.set_cons_succ] at hK ⊢
            go_simp
            exact hK _ _ _ rfl (hJ.grow hl (by decide) (Below.refl _ _) rfl hJ.more)
          · have e1 : f2 1 = (.pointer (some ⟨g, r.length * 5, none⟩)) := hJ.at 1 (hd 1 (by kernel_rfl)) hJ.none
            refine wanted_on rfl ?_
            simp only [putAll, Act.put, List.setIfInBounds_toArray, List.set_cons_zero, List.set_cons_succ, e1] at hK ⊢
            go_simp
            exact hK _ _ _ rfl (hJ.grow hl (by decide) (Below.refl _ _) rfl hJ.more)
          · have e2 : f2 2 = (.pointer (some ⟨g, r.length * 5, none⟩)) := hJ.at 2 (hd 2 (by kernel_rfl)) hJ.none
            refine wanted_on rfl ?_
            simp only [putAll, Act.put, List.setIfInBounds_toArray, List.set_cons_zero, List.set_cons_succ, e2] at hK ⊢
            go_simp
            exact hK _ _ _ rfl (hJ.grow hl (by decide) (Below.refl _ _) rfl hJ.more)
          · have e3 : f2 3 = (.pointer (some ⟨g, r.length * 5 + 4, none⟩)) := hJ.at 3 (hd 3 (by kernel_rfl)) hJ.none
            obtain ⟨g9, cap9, xs9, L9, hF9, hfe9, hxl9, -, -, -, ⟨-, -, -, -, c4⟩, z4, hown9⟩ := ((hJ.more.1 (hno 11 (by kernel_rfl))).1 (hno 8 (by kernel_rfl))).2.top HFR.out
            have hxs9 : L9 = (.slice Lo LL Lc) := by
              have := List.append_inj_right' hfe9 rfl
              simp at this; exact this.symm
            cases hF9
            rw [hxs9] at c4
            refine wanted_on rfl ?_
            simp only [putAll, Act.put, List.setIfInBounds_toArray, List.set_cons_zero, List.set_cons_succ, e3] at hK ⊢
            go_simp
            exact hK _ _ _ rfl (hJ.grow hl (by decide) (Below.refl _ _) rfl hJ.more)
          · refine wanted_on rfl ?_
            simp only [putAll, Act.put, List.setIfInBounds_toArray, List.set_cons_zero, List.set_cons_succ] at hK ⊢
            go_simp
            exact hK _ _ _ rfl (hJ.grow hl (by decide) (Below.refl _ _) rfl hJ.more)
          · have e5 : f2 5 = (.pointer (some ⟨eb, 1, none⟩)) := hJ.at 5 (hd 5 (by kernel_rfl)) hJ.none
            obtain ⟨⟨-, b1, -⟩, -⟩ := box6 ((hJ.more.1 (hno 11 (by kernel_rfl))).1 (hno 8 (by kernel_rfl))).1
            refine wanted_on rfl ?_
            simp only [putAll, Act.put, List.setIfInBounds_toArray, List.set_cons_zero, List.set_cons_succ, e5] at hK ⊢
            go_simp
            exact hK _ _ _ rfl (hJ.grow hl (by decide) (Below.refl _ _) rfl hJ.more)
          · have e6 : f2 6 = (.int .i64 n) := hJ.at 6 (hd 6 (by kernel_rfl)) hJ.none
            refine wanted_on rfl ?_
            simp only [putAll, Act.put, List.setIfInBounds_toArray, List.set_cons_zero, List.set_cons_succ, e6] at hK ⊢
            go_simp
            have hb : Below u.heap.size u (u.alloc (.cells #[.int .i64 n] 3)) := (Below.refl _ _).alloc (Nat.le_refl _) _
            exact hK _ _ _ rfl (hJ.grow hl (by decide) hb (World.ownsRow_lit u #[.int .i64 n] 1 hJ.lo (by decide) rfl) ⟨fun _ => ⟨fun _ => ⟨by rw [hb.block eb (Array.getElem?_eq_some_iff.1 ((hJ.more.1 (hno 11 (by kernel_rfl))).1 (hno 8 (by kernel_rfl))).1).1]; exact ((hJ.more.1 (hno 11 (by kernel_rfl))).1 (hno 8 (by kernel_rfl))).1, ((hJ.more.1 (hno 11 (by kernel_rfl))).1 (hno 8 (by kernel_rfl))).2.below hb⟩, (fun h10 => by have h9 : d 8 = true := h10; rw [hno 8 (by kernel_rfl)] at h9; cases h9)⟩, (fun h10 => by have h9 : d 11 = true := h10; rw [hno 11 (by kernel_rfl)] at h9; cases h9)⟩)
          · have e4 : f2 4 = (.slice Lo LL Lc) := hJ.at 4 (hd 4 (by kernel_rfl)) hJ.none
            have q7 := hJ.at 7 (hd 7 (by kernel_rfl)) hn
            obtain ⟨V7, e7⟩ : ∃ V, f2 7 = V := ⟨_, rfl⟩
            rw [e7] at q7
            refine wanted_on rfl ?_
            simp only [putAll, Act.put, List.setIfInBounds_toArray, List.set_cons_zero, List.set_cons_succ, e4, e7] at hK ⊢
            obtain ⟨-, hk⟩ := (hJ.more.1 (hno 11 (by kernel_rfl))).1 hn
            have hown8 : IOwn B u (.slice Lo LL Lc) f.df.reverse := hk.fr.own ⟨f, (.slice Lo LL Lc)⟩ (by simp)
            refine iapp _ _ rfl rfl rfl hown8 q7 hJ.lo HDL.out ?_
            intro v1 u1 h1 hgr hat hb
            rw [HDR.out] at h1
            have hq := hk.grownD HXM.out hgr
            have hno1 : noOne xs v1 := fun a ha => by
              rcases hat with e1 | e1
              · rw [e1]; exact hk.noOne a ha
              · rw [e1]
                cases hab : a.L.ownBlock with
                | none => exact .inl rfl
                | some b => exact .inr (fun e2 => by have := (World.ownsRow.lt (hk.fr.own a (List.mem_append_left _ ha)) b hab).2; cases e2; omega)
            refine hK _ _ _ rfl (hJ.step (by decide) hb (fun j h2 h3 h4 h5 h6 => ?_) ⟨h1, hno1⟩ ⟨fun _ => ⟨(fun h7 => by cases h7), fun _ => hq⟩, (fun h10 => by have h9 : d 11 = true := h10; rw [hno 11 (by kernel_rfl)] at h9; cases h9)⟩)
            match j, h3, h6 with
            | 0, _, h6 => exact h6
            | 1, _, h6 => exact h6
            | 2, _, h6 => exact h6
            | 3, _, h6 => exact h6
            | 4, _, h6 => exact h6
            | 5, _, h6 => exact h6
            | 6, _, h6 => exact h6
            | 7, h3, _ => exact absurd rfl h3
            | 8, _, _ => exact absurd rfl h2
            | 9, _, h6 => exact h6
            | 10, _, h6 => exact h6
            | 11, _, _ => exact trivial
            | j + 12, _, _ => exact trivial
          · have e0 : f2 0 = (.pointer (some ⟨g, r.length * 5, none⟩)) := hJ.at 0 (hd 0 (by kernel_rfl)) hJ.none
            refine wanted_on rfl ?_
            simp only [putAll, Act.put, List.setIfInBounds_toArray, List.set_cons_zero, List.set_cons_succ, e0] at hK ⊢
            go_simp
            exact hK _ _ _ rfl (hJ.grow hl (by decide) (Below.refl _ _) rfl hJ.more)
          · have e9 : f2 9 = (.pointer (some ⟨g, r.length * 5, none⟩)) := hJ.at 9 (hd 9 (by kernel_rfl)) hJ.none
            refine wanted_on rfl ?_
            simp only [putAll, Act.put, List.setIfInBounds_toArray, List.set_cons_zero, List.set_cons_succ, e9] at hK ⊢
            go_simp
            exact hK _ _ _ rfl (hJ.grow hl (by decide) (Below.refl _ _) rfl hJ.more)
          · obtain ⟨q8, n8⟩ := hJ.at 8 (hd 8 (by kernel_rfl)) hn
            obtain ⟨V8, e8⟩ : ∃ V, f2 8 = V := ⟨_, rfl⟩
            rw [e8] at q8 n8
            have e10 : f2 10 = (.pointer (some ⟨g, r.length * 5 + 4, none⟩)) := hJ.at 10 (hd 10 (by kernel_rfl)) hJ.none
            obtain ⟨ao, cap2, hv7⟩ := IOwn.shape q8
            subst hv7
            have hq := (hJ.more.1 hn).2 (hd 8 (by kernel_rfl))
            have hxl : xs.length = r.length := by have := congrArg List.length hq.xm; simpa using this
            have hkk : (xs ++ [Fe.mk f (.slice Lo LL Lc)])[r.length]? = some ⟨f, (.slice Lo LL Lc)⟩ := by rw [← hxl, List.getElem?_append_right (Nat.le_refl _)]; simp
            obtain ⟨g9, cap9, hF9, -, hg9, hc9, hz9, cur9, hcur9⟩ := own_at Fe.len hq.row hkk
            have hgg : g9 = g := by simp only [Value.slice.injEq, Option.some.injEq, Addr.mk.injEq] at hF9; exact hF9.1.1.symm
            subst hgg
            have c4 := hc9 4 _ rfl
            have z4 := hz9 (r.length * 5 + 4)
            refine wanted_on rfl ?_
            simp only [putAll, Act.put, List.setIfInBounds_toArray, List.set_cons_zero, List.set_cons_succ, e8, e10] at hK ⊢
            go_simp
            skip
            have q8b : IOwn B u (.slice ao l2.length cap2) ({ f with df := n :: f.df } : Fr).df.reverse := by show IOwn B u _ (n :: f.df).reverse; rw [← HL2.out]; exact q8
            obtain ⟨hk, hb⟩ := hq.put (f' := { f with df := n :: f.df }) rfl q8b n8
            refine hK _ (f2 11) _ rfl (hJ.step (by decide) hb (fun j h2 h3 h4 h5 h6 => ?_) trivial ⟨(fun h10 => by cases h10), fun _ => hk⟩)
            match j, h3, h6 with
            | 0, _, h6 => exact h6
            | 1, _, h6 => exact h6
            | 2, _, h6 => exact h6
            | 3, _, h6 => exact h6
            | 4, _, h6 => exact h6
            | 5, _, h6 => exact h6
            | 6, _, h6 => exact h6
            | 7, _, h6 => exact row_far h6 hcur9 (by decide) (fun b hb _ => heap_setCell_other _ _ _ _ (by simpa using hb))
            | 8, h3, _ => exact absurd rfl h3
            | 9, _, h6 => exact h6
            | 10, _, h6 => exact h6
            | 11, _, _ => exact trivial
            | j + 12, _, _ => exact trivial
        · intro f2 d u hJ hall
          have hW := hJ.more.2 (hall 11 (by decide))
          have HF : Hid (WkI B p u (st.step td ⟨3, n, vk, vn, vs⟩).1 (st.step td ⟨3, n, vk, vn, vs⟩).2 ∧ Below B w u) := by
            unfold St.step; rw [HFR.out]; exact ⟨hW, HBW1.out.trans hJ.up⟩
          simp only [putAll, Act.put, List.setIfInBounds_toArray, List.set_cons_zero, List.set_cons_succ]
          clear hW hJ hall hl
          go_wp2_with fail
          go_ret
          exact ⟨rfl, fun _ => HF.out.1, HF.out.2⟩
      have k3b : (k == 3) = false := by simpa using hk3
      by_cases hk4 : k = 4
      · subst hk4
        by_cases hmay : vk = 1 ∨ vk = 3 ∨ vk = 5
        · have HMAY : Hid (vk = 1 ∨ vk = 3 ∨ vk = 5) := hmay
          have HC : Hid (st.code ⟨4, n, vk, vn, vs⟩ = 0) := code_ok HFIN.out HFR.out (.inr (.inr (.inr (.inr (.inr ⟨rfl, hmay⟩)))))
          rw [HC.out]
          have HM : Hid (∀ u, Calls Try.prog 44 #[.agg #[.int .i64 vk, .int .i64 vn, .string vs, .slice lo ln lc]] u fun e w' => e = .returned (.bool true) ∧ Below u.heap.size u w') := fun u => by
            have := own_may vk vn vs lo ln lc u
            rw [decide_eq_true hmay] at this
            exact this
          clear hmay
          go_enter Try.func28, Try.ntmps28
          go_wp2_with fail
          refine (HM.out _).mono ?_
          rintro x w1 ⟨rfl, hb1⟩
          have HI1 : Hid (WkI B p w1 st td) := HI0.out.below hb1
          have hbx := box_stays hb1
          obtain ⟨⟨q0, q1, q2, q3, q4, q5⟩, -⟩ := box6 hbx
          have HB1 : Hid (Below B w w1) := HBW.out.trans (hb1.mono HBL.out)
          clear hb1 hbx
          go_wp2_with fail
          refine (own_panicWith B p st td f r vk vn vs lo ln lc w1 HI1.out HFR.out (Nat.le_trans HB0.out HB1.out.size) HMAY.out HOK.out.s0 (by have := HOK.out.s1; omega) (by have := HOK.out.ps; omega) (by
            have h1 := HFI.out 2
            exact ⟨h1.fr, h1.df, (by have := HOK.out.ps; simp [St.panicS]; omega), h1.td, h1.n0, h1.n1, by simp [St.panicS]⟩)).mono ?_
          rintro x w2 ⟨rfl, h2, hb2⟩
          have HF : Hid (WkI B p w2 (st.step td ⟨4, n, vk, vn, vs⟩).1 (st.step td ⟨4, n, vk, vn, vs⟩).2 ∧ Below B w w2) := by
            unfold St.step; rw [HFR.out]; exact ⟨h2, HB1.out.trans hb2⟩
          clear h2 hb2
          go_wp2_with fail
          go_ret
          exact ⟨rfl, fun _ => HF.out.1, HF.out.2⟩
        · have HC : Hid (st.code ⟨4, n, vk, vn, vs⟩ = 13) := code_no HFIN.out HFR.out (by simp; omega)
          rw [HC.out]
          have HM : Hid (∀ u, Calls Try.prog 44 #[.agg #[.int .i64 vk, .int .i64 vn, .string vs, .slice lo ln lc]] u fun e w' => e = .returned (.bool false) ∧ Below u.heap.size u w') := fun u => by
            have := own_may vk vn vs lo ln lc u
            rw [decide_eq_false hmay] at this
            exact this
          clear hmay
          go_enter Try.func28, Try.ntmps28
          go_wp2_with fail
          refine (HM.out _).mono ?_
          rintro x w1 ⟨rfl, hb1⟩
          have HB1 : Hid (Below B w w1) := HBW.out.trans (hb1.mono HBL.out)
          clear hb1
          go_wp2_with fail
          go_ret
          exact ⟨rfl, (fun h => by cases h), HB1.out⟩
      have k4b : (k == 4) = false := by simpa using hk4
      by_cases hk5 : k = 5
      · subst hk5
        have HC : Hid (st.code ⟨5, n, vk, vn, vs⟩ = 0) := code_ok HFIN.out HFR.out (.inr (.inr (.inr (.inl rfl))))
        rw [HC.out]
        go_enter Try.func28, Try.ntmps28
        go_wp2_with fail
        refine (own_recoverLast B p st td f r _ HI0.out HFR.out HBL.out (by have := HTD.out; omega) (by have := HOK.out.ps; omega) hr1 (HOK.out.rm f r HFR.out)).mono ?_
        rintro x w1 ⟨rfl, h1, hb1⟩
        have HF : Hid (WkI B p w1 (st.step td ⟨5, n, vk, vn, vs⟩).1 (st.step td ⟨5, n, vk, vn, vs⟩).2 ∧ Below B w w1) := by
          unfold St.step; rw [HFR.out]; exact ⟨h1, HBW.out.trans hb1⟩
        clear h1 hb1
        go_wp2_with fail
        go_ret
        exact ⟨rfl, fun _ => HF.out.1, HF.out.2⟩
      have k5b : (k == 5) = false := by simpa using hk5
      by_cases hk6 : k = 6
      · subst hk6
        have HC : Hid (st.code ⟨6, n, vk, vn, vs⟩ = 0) := code_ok HFIN.out HFR.out (.inr (.inr (.inr (.inr (.inl rfl)))))
        rw [HC.out]
        go_enter Try.func28, Try.ntmps28
        go_wp2_with fail
        refine (own_finish B p st td 3 (and255 n) _ HI0.out HBL.out (by have := HTD.out; omega)).mono ?_
        rintro x w1 ⟨rfl, h1, hb1⟩
        have HF : Hid (WkI B p w1 (st.step td ⟨6, n, vk, vn, vs⟩).1 (st.step td ⟨6, n, vk, vn, vs⟩).2 ∧ Below B w w1) := by
          unfold St.step; rw [HFR.out]; exact ⟨h1, HBW.out.trans hb1⟩
        clear h1 hb1
        go_wp2_with fail
        go_ret
        exact ⟨rfl, fun _ => HF.out.1, HF.out.2⟩
      have k6b : (k == 6) = false := by simpa using hk6
      have HC : Hid (st.code ⟨k, n, vk, vn, vs⟩ = 13) := code_no HFIN.out HFR.out (by simp [hk1, hk2, hk3, hk4, hk5, hk6])
      rw [HC.out]
      clear hk1 hk2 hk3 hk4 hk5 hk6
      go_enter Try.func28, Try.ntmps28
      go_wp2_with fail
      go_ret
      exact ⟨rfl, (fun h => by cases h), HBW.out⟩
  · have hfb : (st.fin != 0) = true := by simpa using hfin
    have HC : Hid (st.code e = 17) := by show st.code e = 17; unfold St.code; rw [if_pos (.inl hfin)]
    rw [HC.out]
    clear hfin
    go_enter Try.func28, Try.ntmps28
    go_wp2_with fail
    go_ret
    exact ⟨rfl, (fun h => by cases h), HBW.out⟩
end Go.Proofs.Ytcnpoldcebdhjaa
