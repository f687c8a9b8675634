/- The parser's steps over blocks. -/
import Derived.Test.YtpdndpajobfhmabGreatDoorPw4
namespace Go.Proofs.YtpdndpajobfhmabGreatDoor
open Go.ChangeShapes Go.WideShapes Go.ChangeAt Go.RowKit
set_option maxRecDepth 100000
set_option linter.unusedSimpArgs false
set_option linter.unusedVariables false

theorem Tryz.infoInt : (Tryz.prog.info? 3).map (fun i => (i.zero, i.size, i.bytes)) = some (some (.int .i64 0), 1, 8) := by kernel_rfl
/-- A list of kids of the call's own, beside the parser. -/
structure KRel (B pb : Nat) (toks : List Tk) (w : World) (tv : Value) (st : Ps) (W : World) (tv1 : Value) (kids : List Nat) (v : Value) : Prop where
  sit : Sit B pb toks st W tv1
  mv : Mv pb w tv W tv1
  row : W.ownsRow B 3 1 v kids.length (kcells kids)
  far : ∀ g, v.ownBlock = some g → w.heap.size ≤ g ∧ NoIn W tv1 g
theorem KRel.step {B pb : Nat} {toks : List Tk} {w W W2 : World} {tv tv1 tv2 v : Value} {st st2 : Ps} {kids : List Nat} (h : KRel B pb toks w tv st W tv1 kids v) (hm : Mv pb W tv1 W2 tv2) (hs : Sit B pb toks st2 W2 tv2) : KRel B pb toks w tv st2 W2 tv2 kids v :=
  ⟨hs, h.mv.trans hm, h.sit.prs.keep hm h.row (by decide) (by decide), fun g hg => ⟨(h.far g hg).1, hm.ap g (row_block h.row hg).2.1 (fun e => by cases e) (h.far g hg).2⟩⟩
theorem KRel.put {B pb : Nat} {toks : List Tk} {w W w3 : World} {tv tv1 v v' : Value} {st : Ps} {kids : List Nat} {k : Nat} {o : Obj} (h : KRel B pb toks w tv st W tv1 kids v)
    (hg : (W.alloc o).grownBy w3 v.ownBlock) (ho : w3.ownsRow B 3 1 v' (kids.length + 1) (kcells kids ++ [.int .i64 (k : Int)])) (hat : v'.ownBlock = v.ownBlock ∨ v'.ownBlock = some (W.heap.size + 1)) :
    KRel B pb toks w tv st w3 tv1 (kids ++ [k]) v' := by
  have hp := h.sit.prs
  have hasz : (W.alloc o).heap.size = W.heap.size + 1 := by simp
  have old : ∀ q, q < W.heap.size → some q ≠ v.ownBlock → w3.heap[q]? = W.heap[q]? := fun q hq hv => (hg.block q (by omega) hv).trans (Below.heap_alloc _ _ _ hq)
  have typ : ∀ {e : Nat} {q : Nat} {cur : Array Value}, e ≠ 3 → W.heap[q]? = some (.cells cur e (0, 0)) → some q ≠ v.ownBlock := fun he hq e' => by
    obtain ⟨_, _, cur', hh⟩ := row_block h.row e'.symm
    rw [hq] at hh
    simp at hh
    exact he hh.2
  obtain ⟨tov, h1, h2⟩ := hp.blk
  obtain ⟨kvs, h3, h4, h5⟩ := hp.row
  have tvb : ∀ b, tv1.ownBlock = some b → w3.heap[b]? = W.heap[b]? := fun b hb => by
    obtain ⟨_, hlt, cur, hh⟩ := hp.tv_own hb
    exact old b hlt (typ (by decide) hh)
  have kvc : ∀ (i : Nat) n kv, st.tree[i]? = some n → kvs[i]? = some kv → ∃ b c, tv1 = .slice (some ⟨b, 0, none⟩) st.tree.length c ∧ i < st.tree.length ∧ W.cell? ⟨b, i * 5 + 4, none⟩ = some kv := fun i n kv hi hk => by
    have hlt := (List.getElem?_eq_some_iff.1 hi).1
    rcases h4.2 with ⟨_, h0⟩ | ⟨g, cap, cur, hv, _⟩
    · omega
    · subst hv
      refine ⟨g, cap, rfl, hlt, ?_⟩
      rw [h4.cellAt (i * 5 + 4) (by omega), ncells_get st.tree kvs i 4 n kv (by decide) hi hk]
      rfl
  have same : ∀ g, NoIn W tv1 g → NoIn w3 tv1 g := fun g hn b n c i kv e hi hc => by
    subst e
    rw [World.cell?_of_block (a := ⟨b, i * 5 + 4, none⟩) (tvb b rfl)] at hc
    exact hn b n c i kv rfl hi hc
  have newp : Prs B pb toks st w3 tv1 := by
    refine ⟨hp.low, ⟨tov, (old pb hp.lt (typ (by decide) h1)).trans h1, row_of_block h2 fun q hq => ?_⟩, ⟨kvs, h3, row_of_block h4 fun q hq => tvb q hq, fun i n kv hi hk => row_of_block (h5 i n kv hi hk) fun q hq => ?_⟩⟩
    · obtain ⟨_, hlt, cur, hh⟩ := row_block h2 hq
      exact old q hlt (typ (by decide) hh)
    · obtain ⟨_, hlt, cur, hh⟩ := row_block (h5 i n kv hi hk) hq
      refine old q hlt (fun e => ?_)
      obtain ⟨b, c, e1, e2, e3⟩ := kvc i n kv hi hk
      exact (h.far q e.symm).2 b _ c i kv e1 e2 e3 hq
  refine ⟨⟨newp, h.sit.n, h.sit.pos, h.sit.tree⟩, ?_, ?_, fun g hgb => ?_⟩
  · refine ⟨hg.os.trans h.mv.os, hg.tape.trans h.mv.tape, hg.output.trans h.mv.output, ?_, fun q hq hqp hqo => ?_, h.mv.own, fun g hgl hx hn => same g (h.mv.ap g hgl hx hn)⟩
    · have := h.mv.size; have := hg.size; omega
    · have hqW : q < W.heap.size := Nat.lt_of_lt_of_le hq h.mv.size
      rw [old q hqW (fun e => by have := (h.far q e.symm).1; omega)]
      exact h.mv.block q hq hqp hqo
  · have e : kcells (kids ++ [k]) = kcells kids ++ [.int .i64 (k : Int)] := by simp [kcells]
    rw [e, List.length_append]
    exact ho
  · rcases hat with e | e
    · rw [e] at hgb
      exact ⟨(h.far g hgb).1, same g (h.far g hgb).2⟩
    · rw [e] at hgb
      cases hgb
      refine ⟨by have := h.mv.size; omega, same _ (fun b n c i kv e hi hc hkv => ?_)⟩
      subst e
      obtain ⟨m, cc, hl⟩ : ∃ m c', n = st.tree.length ∧ c' = c := ⟨0, c, by
        rcases h4.2 with ⟨h0, _⟩ | ⟨q, cap, cur, hv, _⟩
        · cases h0
        · simp only [Value.slice.injEq] at hv; exact hv.2.1, rfl⟩
      obtain ⟨hl, -⟩ := hl
      subst hl
      obtain ⟨n1, hn1⟩ : ∃ n1, st.tree[i]? = some n1 := ⟨_, List.getElem?_eq_getElem hi⟩
      obtain ⟨kk, hkk⟩ : ∃ kk, kvs[i]? = some kk := ⟨kvs[i]'(by omega), List.getElem?_eq_getElem _⟩
      obtain ⟨b', c', e1, e2, e3⟩ := kvc i n1 kk hn1 hkk
      simp only [Value.slice.injEq, Option.some.injEq, Addr.mk.injEq] at e1
      obtain ⟨⟨rfl, -, -⟩, -, -⟩ := e1
      rw [e3] at hc
      cases hc
      have := (row_block (h5 i n1 _ hn1 hkk) hkv).2.1
      omega
theorem stmt_adv {toks : List Tk} {n : Nat} {st st' : Ps} {r : List Nat} (h : run toks n .stmt st = .ok r st') (hp : st.pos ≤ toks.length) : st.pos + 1 ≤ st'.pos := by
  cases n with
  | zero => cases h
  | succ n =>
    simp only [run] at h
    split at h
    · cases h
    · cases n with
      | zero => cases h
      | succ n =>
        simp only [run] at h
        split at h
        · rename_i hk
          have hl := pkK_lt hk.1
          have hl2 : st.pos + 1 < toks.length := by
            rcases Nat.lt_or_ge (st.pos + 1) toks.length with hl | hl
            · exact hl
            · exfalso
              have h0 : toks[st.pos + 1]? = none := List.getElem?_eq_none hl
              have := hk.2
              unfold pkT at this
              rw [h0] at this
              revert this
              decide +kernel
          obtain ⟨r1, s1, h1, h2⟩ := bind_ok h
          obtain ⟨a1, a2, a3⟩ := run_inv toks _ _ _ _ _ h1 (by simp only [next_pos]; omega)
          split at h2
          · cases h2; simp only [lay_pos, next_pos] at *; omega
          · cases h2
        · cases h
def CBlock (toks : List Tk) (n : Nat) : Prop := ∀ B pb st w tv, Sit B pb toks st w tv → run toks n .block st ≠ .na → Calls Tryz.prog 91 #[.pointer (some ⟨pb, 0, none⟩)] w (PO B pb toks w tv ret1 (run toks n .block st))
def BRel (B pb : Nat) (toks : List Tk) (w : World) (tv : Value) (n : Nat) (R : Out) (kids : List Nat) (v : Value) (wr : World) : Prop := ∃ (m : Nat) (st1 : Ps) (tv1 : Value), m ≤ n ∧ KRel B pb toks w tv st1 wr tv1 kids v ∧ kids.length ≤ st1.pos ∧ run toks m (.blockLoop kids) st1 = R
theorem is_at {B pb : Nat} {toks : List Tk} {st : Ps} {W : World} {tv : Value} {s : ByteArray} {b : Bool} (hs : isP toks st s = b) (hn : toks.length ≤ 2000) (hp : st.pos ≤ 10000) (h : Prs B pb toks st W tv) :
    Calls Tryz.prog 28 #[.pointer (some ⟨pb, 0, none⟩), .string s] W fun e w' => e = .returned (.bool b) ∧ Below W.heap.size W w' := by
  have := own_is B pb toks st W tv s h hn hp
  rwa [hs] at this
set_option maxHeartbeats 4000000 in
theorem c_block (toks : List Tk) (n : Nat) : CBlock toks n := by
  intro B pb st w tv hs hna
  obtain ⟨i0, hi, hz0, hz1, hz2⟩ := info_parts Tryz.infoInt
  cases n with
  | zero => exact absurd rfl hna
  | succ n =>
    simp only [run] at hna ⊢
    have hp := hs.pos
    have hn := hs.n
    have htr := hs.tree
    have HMU := own_must B pb toks st w tv ⟨#[123]⟩ hs.prs hn (by omega)
    unfold mustP at HMU
    cases h123 : isP toks st ⟨#[123]⟩ with
    | false =>
      rw [h123, if_neg (by decide)] at HMU
      rw [if_pos rfl]
      have HM' : Hid (Calls Tryz.prog 30 #[.pointer (some ⟨pb, 0, none⟩), .string ⟨#[123]⟩] w (PP B pb toks w tv unitV none)) := HMU
      clear hna HMU hs h123
      go_enter Tryz.func91, Tryz.ntmps91
      go_wp2_with fail
      refine HM'.out.mono ?_
      rintro e w1 ⟨rfl, m⟩
      exact ⟨rfl, rfl, m⟩
    | true =>
      rw [h123, if_pos rfl] at HMU
      rw [h123, if_neg (by decide)] at hna
      rw [if_neg (by decide)]
      have hl0 := isP_lt h123 (by decide)
      have HM' : Hid (Calls Tryz.prog 30 #[.pointer (some ⟨pb, 0, none⟩), .string ⟨#[123]⟩] w (PP B pb toks w tv unitV (some ((), st.next)))) := HMU
      generalize hR : run toks n (.blockLoop []) st.next = R at *
      have HR : Hid (run toks n (.blockLoop []) st.next = R) := hR
      have HNA : Hid (R ≠ .na) := hna
      have HSN : Hid (∀ W tvx, Prs B pb toks st.next W tvx → Sit B pb toks st.next W tvx) := fun W tvx h => ⟨h, hn, by simp only [next_pos]; omega, by simp only [next_pos, next_tree]; omega⟩
      clear hna HMU hs h123 hR htr
      go_enter Tryz.func91, Tryz.ntmps91
      go_wp2_with fail
      refine HM'.out.mono ?_
      rintro e w1 ⟨rfl, tv1, q1, m1⟩
      have HST : Hid (BRel B pb toks w tv n R [] (.slice none 0 0) w1) := ⟨n, st.next, tv1, Nat.le_refl _, ⟨HSN.out _ _ q1, m1, nil_row _ _, fun g hg => by cases hg⟩, Nat.zero_le _, HR.out⟩
      clear q1 m1
      go_wp2
      go_loopw [3] (fun v wr => ∃ (kids : List Nat) (ko : Option Addr) (kc : Nat), v = .slice ko kids.length kc ∧ Hid (BRel B pb toks w tv n R kids v wr)) (fun _ wr => toks.length + 1 - posP pb wr)
      case atStart => exact ⟨[], none, 0, rfl, HST.out⟩
      case round =>
        clear HST
        obtain ⟨kids, ko, kc, rfl, HK⟩ := hrel
        obtain ⟨m, st1, tv1, hm, hkr, hkl, hrun⟩ := HK.out
        have HKR : Hid (KRel B pb toks w tv st1 wr tv1 kids (.slice ko kids.length kc)) := hkr
        have hp1 := hkr.sit.pos
        have htr := hkr.sit.tree
        have HPP : Hid (posP pb wr = st1.pos) := hkr.sit.prs.posP
        clear HK hkr
        cases m with
        | zero => exact absurd hrun.symm HNA.out
        | succ m =>
          simp only [run] at hrun
          by_cases h125 : isP toks st1 ⟨#[125]⟩ = true
          · rw [if_pos h125] at hrun
            have hl1 := isP_lt h125 (by decide)
            have HRR : Hid (R = .ok [st1.tree.length] (st1.next.lay ⟨5, ⟨#[]⟩, ⟨#[]⟩, 0, kids⟩)) := hrun.symm
            have HT : Hid (Calls Tryz.prog 61 #[.pointer (some ⟨pb, 0, none⟩), .string ⟨#[125]⟩] wr fun e w' => e = .returned (.bool true) ∧ Prs B pb toks st1.next w' tv1 ∧ Mv pb wr tv1 w' tv1) := take_yes h125 hn (by omega) HKR.out.sit.prs
            have HLA : Hid (∀ W, Prs B pb toks st1.next W tv1 → W.ownsRow B 3 1 (.slice ko kids.length kc) kids.length (kcells kids) → Calls Tryz.prog 31 #[.pointer (some ⟨pb, 0, none⟩), Nd.val ⟨5, ⟨#[]⟩, ⟨#[]⟩, 0, kids⟩ (.slice ko kids.length kc)] W fun e w' => e = .returned (.int .i64 st1.tree.length) ∧ ∃ tv', Prs B pb toks (st1.next.lay ⟨5, ⟨#[]⟩, ⟨#[]⟩, 0, kids⟩) w' tv' ∧ MvX pb (Value.slice ko kids.length kc).ownBlock W tv1 w' tv') := fun W h hrow => own_lay B pb toks st1.next W tv1 ⟨5, ⟨#[]⟩, ⟨#[]⟩, 0, kids⟩ ko kids.length kc h hrow (by simp only [next_tree]; omega)
            unfold Nd.val at HLA
            generalize st1.next.lay ⟨5, ⟨#[]⟩, ⟨#[]⟩, 0, kids⟩ = st3 at *
            clear hrun h125
            go_wp2_with fail
            refine HT.out.mono ?_
            rintro e w2 ⟨rfl, q2, m2⟩
            have HQ2 : Hid (Prs B pb toks st1.next w2 tv1 ∧ Mv pb w tv w2 tv1 ∧ w2.ownsRow B 3 1 (.slice ko kids.length kc) kids.length (kcells kids)) := ⟨q2, HKR.out.mv.trans m2, HKR.out.sit.prs.keep m2 HKR.out.row (by decide) (by decide)⟩
            clear q2 m2
            go_wp2_with fail
            refine (HLA.out _ HQ2.out.1 HQ2.out.2.2).mono ?_
            rintro e w3 ⟨rfl, tv3, q3, m3⟩
            have HQ3 : Hid (Prs B pb toks st3 w3 tv3 ∧ Mv pb w tv w3 tv3) := ⟨q3, HQ2.out.2.1.then m3 (fun q hq => (HKR.out.far q hq).1)⟩
            clear q3 m3
            go_wp2
            go_ret
            rw [HRR.out]
            exact ⟨rfl, _, HQ3.out⟩
          · rw [if_neg h125] at hrun
            have e125 : isP toks st1 ⟨#[125]⟩ = false := by simpa using h125
            have HT : Hid (Calls Tryz.prog 61 #[.pointer (some ⟨pb, 0, none⟩), .string ⟨#[125]⟩] wr fun e w' => e = .returned (.bool false) ∧ Prs B pb toks st1 w' tv1 ∧ Mv pb wr tv1 w' tv1) := take_no e125 hn (by omega) HKR.out.sit.prs
            by_cases h59 : isP toks st1 ⟨#[59]⟩ = true
            · rw [if_pos h59] at hrun
              have hl1 := isP_lt h59 (by decide)
              have HI1 : Hid (∀ W, Prs B pb toks st1 W tv1 → Calls Tryz.prog 28 #[.pointer (some ⟨pb, 0, none⟩), .string ⟨#[59]⟩] W fun e w' => e = .returned (.bool true) ∧ Below W.heap.size W w') := fun W h => is_at h59 hn (by omega) h
              have HI2 : Hid (∀ W, Prs B pb toks st1 W tv1 → Calls Tryz.prog 28 #[.pointer (some ⟨pb, 0, none⟩), .string ⟨#[125]⟩] W fun e w' => e = .returned (.bool false) ∧ Below W.heap.size W w') := fun W h => is_at e125 hn (by omega) h
              have HMU : Hid (∀ W, Prs B pb toks st1 W tv1 → Calls Tryz.prog 30 #[.pointer (some ⟨pb, 0, none⟩), .string ⟨#[59]⟩] W (PP B pb toks W tv1 unitV (some ((), st1.next)))) := fun W h => by
                have := own_must B pb toks st1 W tv1 ⟨#[59]⟩ h hn (by omega)
                unfold mustP at this
                rwa [h59, if_pos rfl] at this
              have HNX : Hid (∀ W tvx, Prs B pb toks st1.next W tvx → Mv pb wr tv1 W tvx → BRel B pb toks w tv n R kids (.slice ko kids.length kc) W ∧ posP pb W = st1.pos + 1) := fun W tvx hx hmx => ⟨⟨m, st1.next, tvx, by omega, HKR.out.step hmx ⟨hx, hn, by simp only [next_pos]; omega, by simp only [next_pos, next_tree]; omega⟩, by simp only [next_pos]; omega, hrun⟩, by rw [hx.posP]; rfl⟩
              generalize st1.next = st2 at *
              clear hrun h125 h59 e125
              go_wp2_with fail
              refine HT.out.mono ?_
              rintro e w2 ⟨rfl, q2, m2⟩
              have HQ2 : Hid (Prs B pb toks st1 w2 tv1 ∧ Mv pb wr tv1 w2 tv1) := ⟨q2, m2⟩
              clear q2 m2
              go_wp2_with fail
              refine (HI1.out _ HQ2.out.1).mono ?_
              rintro e w3 ⟨rfl, hb3⟩
              have HQ3 : Hid (Prs B pb toks st1 w3 tv1 ∧ Mv pb wr tv1 w3 tv1) := ⟨HQ2.out.1.below hb3, HQ2.out.2.trans (HQ2.out.1.mvb hb3)⟩
              clear hb3
              go_wp2_with fail
              refine (HI2.out _ HQ3.out.1).mono ?_
              rintro e w4 ⟨rfl, hb4⟩
              have HQ4 : Hid (Prs B pb toks st1 w4 tv1 ∧ Mv pb wr tv1 w4 tv1) := ⟨HQ3.out.1.below hb4, HQ3.out.2.trans (HQ3.out.1.mvb hb4)⟩
              clear hb4
              go_wp2_with fail
              refine (HMU.out _ HQ4.out.1).mono ?_
              rintro e w5 ⟨rfl, tv5, q5, m5⟩
              obtain ⟨hr5, hp5⟩ := HNX.out w5 tv5 q5 (HQ4.out.2.trans m5)
              have HREL : Hid (BRel B pb toks w tv n R kids (.slice ko kids.length kc) w5) := hr5
              have HPOS : Hid (posP pb w5 = st1.pos + 1) := hp5
              clear q5 m5 hr5 hp5
              go_wp2
              exact ⟨⟨kids, ko, kc, rfl, HREL.out⟩, by rw [HPOS.out, HPP.out]; omega⟩
            · rw [if_neg h59] at hrun
              have e59 : isP toks st1 ⟨#[59]⟩ = false := by simpa using h59
              have HI1 : Hid (∀ W, Prs B pb toks st1 W tv1 → Calls Tryz.prog 28 #[.pointer (some ⟨pb, 0, none⟩), .string ⟨#[59]⟩] W fun e w' => e = .returned (.bool false) ∧ Below W.heap.size W w') := fun W h => is_at e59 hn (by omega) h
              have HSTM : Hid (∀ W, Prs B pb toks st1 W tv1 → run toks m .stmt st1 ≠ .na → Calls Tryz.prog 106 #[.pointer (some ⟨pb, 0, none⟩)] W (PO B pb toks W tv1 ret1 (run toks m .stmt st1))) := fun W h hx => c_stmt toks m B pb st1 W tv1 ⟨h, hn, hp1, htr⟩ hx
              cases hq : run toks m .stmt st1 with
              | na => rw [hq] at hrun; exact absurd hrun.symm HNA.out
              | bad =>
                rw [hq] at hrun HSTM
                have HRR : Hid (R = .bad) := hrun.symm
                clear hrun h125 h59 e125 e59 hq
                go_wp2_with fail
                refine HT.out.mono ?_
                rintro e w2 ⟨rfl, q2, m2⟩
                have HQ2 : Hid (Prs B pb toks st1 w2 tv1 ∧ Mv pb wr tv1 w2 tv1) := ⟨q2, m2⟩
                clear q2 m2
                go_wp2_with fail
                refine (HI1.out _ HQ2.out.1).mono ?_
                rintro e w3 ⟨rfl, hb3⟩
                have HQ3 : Hid (Prs B pb toks st1 w3 tv1 ∧ Mv pb wr tv1 w3 tv1) := ⟨HQ2.out.1.below hb3, HQ2.out.2.trans (HQ2.out.1.mvb hb3)⟩
                clear hb3
                go_wp2_with fail
                refine (HSTM.out _ HQ3.out.1 (by intro e; cases e)).mono ?_
                rintro e w4 ⟨rfl, tv4, m4⟩
                refine ⟨rfl, ?_⟩
                rw [HRR.out]
                exact ⟨rfl, _, (HKR.out.mv.trans HQ3.out.2).trans m4⟩
              | ok r2 st2 =>
                have HS2 : Hid (∀ W tvx, Prs B pb toks st2 W tvx → Sit B pb toks st2 W tvx) := fun W tvx hx => HKR.out.sit.after hq rfl hx
                have hadv := stmt_adv hq hp1
                obtain ⟨j1, j2, j3⟩ := run_inv toks _ _ _ _ _ hq hp1
                rw [hq] at hrun HSTM
                simp only [Out.bind] at hrun
                split at hrun
                · rename_i k
                  have hk0 : kids.length ≤ 2000 := by omega
                  have HST2 : Hid (∀ W tvx, Prs B pb toks st2 W tvx → Sit B pb toks st2 W tvx) := HS2.out
                  have HGO : Hid (∀ W, Prs B pb toks st1 W tv1 → Calls Tryz.prog 106 #[.pointer (some ⟨pb, 0, none⟩)] W (PO B pb toks W tv1 ret1 (.ok [k] st2))) := fun W h => HSTM.out W h (by intro e; cases e)
                  clear HSTM
                  by_cases g125 : isP toks st2 ⟨#[125]⟩ = true
                  · rw [if_pos g125] at hrun
                    have HJ : Hid (∀ W tvx, Prs B pb toks st2 W tvx → Calls Tryz.prog 28 #[.pointer (some ⟨pb, 0, none⟩), .string ⟨#[125]⟩] W fun e w' => e = .returned (.bool true) ∧ Below W.heap.size W w') := fun W tvx h => is_at g125 hn (by omega) h
                    have HNX : Hid (∀ W tvx v, KRel B pb toks w tv st2 W tvx (kids ++ [k]) v → BRel B pb toks w tv n R (kids ++ [k]) v W ∧ posP pb W = st2.pos) := fun W tvx v hx => ⟨⟨m, st2, tvx, by omega, hx, by simp; omega, hrun⟩, hx.sit.prs.posP⟩
                    clear hrun h125 h59 e125 e59 hq g125 j3 HS2
                    go_wp2_with fail
                    refine HT.out.mono ?_
                    rintro e w2 ⟨rfl, q2, m2⟩
                    have HQ2 : Hid (Prs B pb toks st1 w2 tv1 ∧ Mv pb wr tv1 w2 tv1) := ⟨q2, m2⟩
                    clear q2 m2
                    go_wp2_with fail
                    refine (HI1.out _ HQ2.out.1).mono ?_
                    rintro e w3 ⟨rfl, hb3⟩
                    have HQ3 : Hid (Prs B pb toks st1 w3 tv1 ∧ Mv pb wr tv1 w3 tv1) := ⟨HQ2.out.1.below hb3, HQ2.out.2.trans (HQ2.out.1.mvb hb3)⟩
                    clear hb3
                    go_wp2_with fail
                    refine (HGO.out _ HQ3.out.1).mono ?_
                    rintro e w4 ⟨rfl, tv4, q4, m4⟩
                    have HQ4 : Hid (KRel B pb toks w tv st2 w4 tv4 kids (.slice ko kids.length kc)) := HKR.out.step (HQ3.out.2.trans m4) (HST2.out _ _ q4)
                    have hB4 : B ≤ w4.heap.size := Nat.le_trans q4.low (Nat.le_of_lt q4.lt)
                    clear q4 m4
                    simp only [ret1]
                    go_wp2_with (at_builtin; refine wpList_append_own_at _ rfl _ _ 33 rfl B 3 i0 (.int .i64 0) 1 8 Tryz.underlying33 hi hz0 hz1 hz2 rfl (by decide) _ _ _ rfl (World.ownsRow.alloc HQ4.out.row _) ⟨w4.heap.size, 0, none⟩ 1 1 [.int .i64 (k : Int)] rfl rfl ?c1 ?c2 ?c3 ?c4 ?c5 ?_)
                    case c1 => exact cell_one_new _ _ _
                    case c2 => intro y hy; simp at hy; subst hy; rfl
                    case c3 => unfold maxLen; omega
                    case c4 => omega
                    case c5 => simp; omega
                    intro v6 w6 hown6 hgrow6 _ hat6
                    have hk6 := HQ4.out.put hgrow6 hown6 hat6
                    obtain ⟨ko', kc', rfl⟩ : ∃ a c, v6 = .slice a (kids ++ [k]).length c := by
                      rcases hown6.2 with ⟨_, h0⟩ | ⟨g, cap, cur, hv, _⟩
                      · omega
                      · exact ⟨some ⟨g, 0, none⟩, cap, by rw [hv]; simp⟩
                    have HQ6 : Hid (KRel B pb toks w tv st2 w6 tv4 (kids ++ [k]) (.slice ko' (kids ++ [k]).length kc')) := hk6
                    clear hk6 hown6 hgrow6 hat6
                    go_wp2_with fail
                    refine (HJ.out _ _ HQ6.out.sit.prs).mono ?_
                    rintro e w7 ⟨rfl, hb7⟩
                    obtain ⟨hr7, hp7⟩ := HNX.out w7 tv4 _ (HQ6.out.step (HQ6.out.sit.prs.mvb hb7) ⟨HQ6.out.sit.prs.below hb7, HQ6.out.sit.n, HQ6.out.sit.pos, HQ6.out.sit.tree⟩)
                    have HREL : Hid (BRel B pb toks w tv n R (kids ++ [k]) (.slice ko' (kids ++ [k]).length kc') w7) := hr7
                    have HPOS : Hid (posP pb w7 = st2.pos) := hp7
                    clear hb7 hr7 hp7
                    go_wp2
                    exact ⟨⟨kids ++ [k], ko', kc', by simp, (by have h := HREL.out; rw [List.length_append] at h; exact h)⟩, by rw [HPOS.out, HPP.out]; omega⟩
                  · rw [if_neg g125] at hrun
                    have eg : isP toks st2 ⟨#[125]⟩ = false := by simpa using g125
                    have HJ : Hid (∀ W tvx, Prs B pb toks st2 W tvx → Calls Tryz.prog 28 #[.pointer (some ⟨pb, 0, none⟩), .string ⟨#[125]⟩] W fun e w' => e = .returned (.bool false) ∧ Below W.heap.size W w') := fun W tvx h => is_at eg hn (by omega) h
                    by_cases g59 : isP toks st2 ⟨#[59]⟩ = true
                    · rw [if_pos g59] at hrun
                      have hl2 := isP_lt g59 (by decide)
                      have HMU : Hid (∀ W tvx, Prs B pb toks st2 W tvx → Calls Tryz.prog 30 #[.pointer (some ⟨pb, 0, none⟩), .string ⟨#[59]⟩] W (PP B pb toks W tvx unitV (some ((), st2.next)))) := fun W tvx h => by
                        have := own_must B pb toks st2 W tvx ⟨#[59]⟩ h hn (by omega)
                        unfold mustP at this
                        rwa [g59, if_pos rfl] at this
                      have HNX : Hid (∀ W tvx v, KRel B pb toks w tv st2.next W tvx (kids ++ [k]) v → BRel B pb toks w tv n R (kids ++ [k]) v W ∧ posP pb W = st2.pos + 1) := fun W tvx v hx => ⟨⟨m, st2.next, tvx, by omega, hx, by simp; omega, hrun⟩, by rw [hx.sit.prs.posP]; rfl⟩
                      have HSN : Hid (∀ W tvx, Sit B pb toks st2 W tvx → ∀ W' tv', Prs B pb toks st2.next W' tv' → Sit B pb toks st2.next W' tv') := fun W tvx hx W' tv' h => ⟨h, hn, by simp only [next_pos]; omega, by have := hx.tree; simp only [next_pos, next_tree]; omega⟩
                      clear hrun h125 h59 e125 e59 hq g125 g59 eg j3 HS2
                      generalize st2.next = st3 at *
                      go_wp2_with fail
                      refine HT.out.mono ?_
                      rintro e w2 ⟨rfl, q2, m2⟩
                      have HQ2 : Hid (Prs B pb toks st1 w2 tv1 ∧ Mv pb wr tv1 w2 tv1) := ⟨q2, m2⟩
                      clear q2 m2
                      go_wp2_with fail
                      refine (HI1.out _ HQ2.out.1).mono ?_
                      rintro e w3 ⟨rfl, hb3⟩
                      have HQ3 : Hid (Prs B pb toks st1 w3 tv1 ∧ Mv pb wr tv1 w3 tv1) := ⟨HQ2.out.1.below hb3, HQ2.out.2.trans (HQ2.out.1.mvb hb3)⟩
                      clear hb3
                      go_wp2_with fail
                      refine (HGO.out _ HQ3.out.1).mono ?_
                      rintro e w4 ⟨rfl, tv4, q4, m4⟩
                      have HQ4 : Hid (KRel B pb toks w tv st2 w4 tv4 kids (.slice ko kids.length kc)) := HKR.out.step (HQ3.out.2.trans m4) (HST2.out _ _ q4)
                      have hB4 : B ≤ w4.heap.size := Nat.le_trans q4.low (Nat.le_of_lt q4.lt)
                      clear q4 m4
                      simp only [ret1]
                      go_wp2_with (at_builtin; refine wpList_append_own_at _ rfl _ _ 33 rfl B 3 i0 (.int .i64 0) 1 8 Tryz.underlying33 hi hz0 hz1 hz2 rfl (by decide) _ _ _ rfl (World.ownsRow.alloc HQ4.out.row _) ⟨w4.heap.size, 0, none⟩ 1 1 [.int .i64 (k : Int)] rfl rfl ?c1 ?c2 ?c3 ?c4 ?c5 ?_)
                      case c1 => exact cell_one_new _ _ _
                      case c2 => intro y hy; simp at hy; subst hy; rfl
                      case c3 => unfold maxLen; omega
                      case c4 => omega
                      case c5 => simp; omega
                      intro v6 w6 hown6 hgrow6 _ hat6
                      have hk6 := HQ4.out.put hgrow6 hown6 hat6
                      obtain ⟨ko', kc', rfl⟩ : ∃ a c, v6 = .slice a (kids ++ [k]).length c := by
                        rcases hown6.2 with ⟨_, h0⟩ | ⟨g, cap, cur, hv, _⟩
                        · omega
                        · exact ⟨some ⟨g, 0, none⟩, cap, by rw [hv]; simp⟩
                      have HQ6 : Hid (KRel B pb toks w tv st2 w6 tv4 (kids ++ [k]) (.slice ko' (kids ++ [k]).length kc')) := hk6
                      clear hk6 hown6 hgrow6 hat6
                      go_wp2_with fail
                      refine (HJ.out _ _ HQ6.out.sit.prs).mono ?_
                      rintro e w7 ⟨rfl, hb7⟩
                      have HQ7 : Hid (KRel B pb toks w tv st2 w7 tv4 (kids ++ [k]) (.slice ko' (kids ++ [k]).length kc')) := HQ6.out.step (HQ6.out.sit.prs.mvb hb7) ⟨HQ6.out.sit.prs.below hb7, HQ6.out.sit.n, HQ6.out.sit.pos, HQ6.out.sit.tree⟩
                      clear hb7
                      go_wp2_with fail
                      refine (HMU.out _ _ HQ7.out.sit.prs).mono ?_
                      rintro e w8 ⟨rfl, tv8, q8, m8⟩
                      obtain ⟨hr8, hp8⟩ := HNX.out w8 tv8 _ (HQ7.out.step m8 (HSN.out _ _ HQ7.out.sit _ _ q8))
                      have HREL : Hid (BRel B pb toks w tv n R (kids ++ [k]) (.slice ko' (kids ++ [k]).length kc') w8) := hr8
                      have HPOS : Hid (posP pb w8 = st2.pos + 1) := hp8
                      clear q8 m8 hr8 hp8
                      go_wp2
                      exact ⟨⟨kids ++ [k], ko', kc', by simp, (by have h := HREL.out; rw [List.length_append] at h; exact h)⟩, by rw [HPOS.out, HPP.out]; omega⟩
                    · rw [if_neg g59] at hrun
                      have e59' : isP toks st2 ⟨#[59]⟩ = false := by simpa using g59
                      have HRR : Hid (R = .bad) := hrun.symm
                      have HMU : Hid (∀ W tvx, Prs B pb toks st2 W tvx → Calls Tryz.prog 30 #[.pointer (some ⟨pb, 0, none⟩), .string ⟨#[59]⟩] W (PP B pb toks W tvx unitV none)) := fun W tvx h => by
                        have := own_must B pb toks st2 W tvx ⟨#[59]⟩ h hn (by omega)
                        unfold mustP at this
                        rwa [e59', if_neg (by decide)] at this
                      clear hrun h125 h59 e125 e59 hq g125 g59 eg e59' j3 HS2
                      go_wp2_with fail
                      refine HT.out.mono ?_
                      rintro e w2 ⟨rfl, q2, m2⟩
                      have HQ2 : Hid (Prs B pb toks st1 w2 tv1 ∧ Mv pb wr tv1 w2 tv1) := ⟨q2, m2⟩
                      clear q2 m2
                      go_wp2_with fail
                      refine (HI1.out _ HQ2.out.1).mono ?_
                      rintro e w3 ⟨rfl, hb3⟩
                      have HQ3 : Hid (Prs B pb toks st1 w3 tv1 ∧ Mv pb wr tv1 w3 tv1) := ⟨HQ2.out.1.below hb3, HQ2.out.2.trans (HQ2.out.1.mvb hb3)⟩
                      clear hb3
                      go_wp2_with fail
                      refine (HGO.out _ HQ3.out.1).mono ?_
                      rintro e w4 ⟨rfl, tv4, q4, m4⟩
                      have HQ4 : Hid (KRel B pb toks w tv st2 w4 tv4 kids (.slice ko kids.length kc)) := HKR.out.step (HQ3.out.2.trans m4) (HST2.out _ _ q4)
                      have hB4 : B ≤ w4.heap.size := Nat.le_trans q4.low (Nat.le_of_lt q4.lt)
                      clear q4 m4
                      simp only [ret1]
                      go_wp2_with (at_builtin; refine wpList_append_own_at _ rfl _ _ 33 rfl B 3 i0 (.int .i64 0) 1 8 Tryz.underlying33 hi hz0 hz1 hz2 rfl (by decide) _ _ _ rfl (World.ownsRow.alloc HQ4.out.row _) ⟨w4.heap.size, 0, none⟩ 1 1 [.int .i64 (k : Int)] rfl rfl ?c1 ?c2 ?c3 ?c4 ?c5 ?_)
                      case c1 => exact cell_one_new _ _ _
                      case c2 => intro y hy; simp at hy; subst hy; rfl
                      case c3 => unfold maxLen; omega
                      case c4 => omega
                      case c5 => simp; omega
                      intro v6 w6 hown6 hgrow6 _ hat6
                      have hk6 := HQ4.out.put hgrow6 hown6 hat6
                      obtain ⟨ko', kc', rfl⟩ : ∃ a c, v6 = .slice a (kids ++ [k]).length c := by
                        rcases hown6.2 with ⟨_, h0⟩ | ⟨g, cap, cur, hv, _⟩
                        · omega
                        · exact ⟨some ⟨g, 0, none⟩, cap, by rw [hv]; simp⟩
                      have HQ6 : Hid (KRel B pb toks w tv st2 w6 tv4 (kids ++ [k]) (.slice ko' (kids ++ [k]).length kc')) := hk6
                      clear hk6 hown6 hgrow6 hat6
                      go_wp2_with fail
                      refine (HJ.out _ _ HQ6.out.sit.prs).mono ?_
                      rintro e w7 ⟨rfl, hb7⟩
                      have HQ7 : Hid (KRel B pb toks w tv st2 w7 tv4 (kids ++ [k]) (.slice ko' (kids ++ [k]).length kc')) := HQ6.out.step (HQ6.out.sit.prs.mvb hb7) ⟨HQ6.out.sit.prs.below hb7, HQ6.out.sit.n, HQ6.out.sit.pos, HQ6.out.sit.tree⟩
                      clear hb7
                      go_wp2_with fail
                      refine (HMU.out _ _ HQ7.out.sit.prs).mono ?_
                      rintro e w8 ⟨rfl, tv8, m8⟩
                      refine ⟨rfl, ?_⟩
                      rw [HRR.out]
                      exact ⟨rfl, _, HQ7.out.mv.trans m8⟩
                · exact absurd hrun.symm HNA.out
end Go.Proofs.YtpdndpajobfhmabGreatDoor
