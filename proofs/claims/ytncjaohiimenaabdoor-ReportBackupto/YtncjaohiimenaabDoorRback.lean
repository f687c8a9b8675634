/- What a crash of numbers and texts tells is read again. -/
import Derived.Test.YtncjaohiimenaabDoorRread3
import Derived.Test.YtncjaohiimenaabDoorRrows
import Derived.Test.YtncjaohiimenaabDoorQback
namespace Go.Proofs.YtncjaohiimenaabDoor
open Go.ChangeShapes Go.WideShapes Go.ChangeAt Go.RowKit
set_option maxRecDepth 100000
set_option linter.unusedSimpArgs false
set_option linter.unusedVariables false
def sane1 (c : UInt8) : UInt8 := if okB c then c else 63
def sane (l : List UInt8) : List UInt8 := l.map sane1
theorem sane_ok (l : List UInt8) : (sane l).all okB = true := by
  rw [List.all_eq_true]
  intro c hc
  obtain ⟨d, -, rfl⟩ := List.mem_map.1 hc
  unfold sane1
  by_cases h : okB d = true
  · rw [if_pos h]; exact h
  · rw [if_neg h]; decide
theorem piece_sane (c : UInt8) : tPiece c = qPiece (sane1 c) ∧ tPiece (sane1 c) = tPiece c := by
  unfold tPiece sane1
  by_cases h : okB c = true
  · rw [if_pos h, if_pos h, if_pos h]; exact ⟨rfl, rfl⟩
  · rw [if_neg h, if_neg h]; exact ⟨by decide, by decide⟩
theorem body_sane : ∀ l : List UInt8, tBody l = qBody (sane l) ∧ tBody (sane l) = tBody l
  | [] => ⟨rfl, rfl⟩
  | c :: r => by
    obtain ⟨h1, h2⟩ := body_sane r
    obtain ⟨h3, h4⟩ := piece_sane c
    refine ⟨?_, ?_⟩
    · show tPiece c ++ tBody r = qPiece (sane1 c) ++ qBody (sane r)
      rw [h1, h3]
    · show tPiece (sane1 c) ++ tBody (sane r) = tPiece c ++ tBody r
      rw [h2, h4]
/-- As which value it is read. -/
def backP (x : Vv) : Vv := if x.kind = 1 then ⟨1, x.n, ⟨#[]⟩, []⟩ else ⟨3, 0, ⟨(sane x.s.data.toList).toArray⟩, []⟩
structure Made (x : Vv) : Prop where
  kind : x.kind = 1 ∨ x.kind = 3
  vin : VIn x
  short : x.s.size ≤ 100
theorem back_text {x : Vv} (h : Made x) : textV (backP x) = textV x := by
  rcases h.kind with h1 | h3
  · unfold backP; rw [if_pos h1]; unfold textV; rw [if_pos rfl, if_pos h1]
  · have h1 : ¬ x.kind = 1 := by omega
    unfold backP; rw [if_neg h1]; unfold textV; rw [if_neg (by show ¬ (3 : Int) = 1; decide), if_pos rfl, if_neg h1, if_pos h3]
    show (⟨(tQuote (sane x.s.data.toList)).toArray⟩ : ByteArray) = _
    unfold tQuote
    rw [(body_sane _).2]
theorem dec_low (u : Nat) : ∀ c ∈ Lib.decDigits u, c.toNat ≤ 57 ∧ c ≠ 34 := by
  have hd : ∀ d, d < 10 → (UInt8.ofNat (48 + d)).toNat ≤ 57 ∧ UInt8.ofNat (48 + d) ≠ 34 := by decide
  induction u using Nat.strongRecOn with
  | _ u ih =>
    rw [Lib.decDigits]
    split
    · rename_i h
      intro c hc
      have h1 : c = UInt8.ofNat (48 + u) := List.mem_singleton.1 hc
      rw [h1]; exact hd u h
    · rename_i h
      intro c hc
      rcases List.mem_append.1 hc with hc | hc
      · exact ih (u / 10) (by omega) c hc
      · have h1 : c = UInt8.ofNat (48 + u % 10) := List.mem_singleton.1 hc
        rw [h1]; exact hd (u % 10) (Nat.mod_lt _ (by decide))
theorem itoa_low (n : Int) : ∀ c ∈ Lib.itoa n, c.toNat ≤ 57 ∧ c ≠ 34 := by
  unfold Lib.itoa
  split
  · intro c hc
    rcases List.mem_cons.1 hc with rfl | hc
    · decide
    · exact dec_low _ c hc
  · exact dec_low _
theorem read_text {x : Vv} (h : Made x) : readV (textV x) = some (backP x) := by
  rcases h.kind with h1 | h3
  · have hb := i64_bounds h.vin.wn
    obtain ⟨e1, e2⟩ := rd_txt x.n hb.1 hb.2
    unfold backP textV readV
    rw [if_pos h1, if_pos h1, e1, e2, if_pos rfl]
  · have h1 : ¬ x.kind = 1 := by omega
    unfold backP textV
    rw [if_neg h1, if_neg h1, if_pos h3]
    have hq : tQuote x.s.data.toList = 34 :: (qBody (sane x.s.data.toList) ++ [34]) := by unfold tQuote; rw [(body_sane _).1]
    have hlen : (sane x.s.data.toList).length ≤ 200 := by
      have := bsize_list x.s
      have := h.short
      simp only [sane, List.length_map]; omega
    have hu := uq_quoted (sane_ok x.s.data.toList) hlen
    rw [← hq] at hu
    have hrd : rdE ⟨(tQuote x.s.data.toList).toArray⟩ ≠ 0 := by
      intro h0
      obtain ⟨e, -, -⟩ := rd_ok h0
      have e2 : Lib.itoa (rdN ⟨(tQuote x.s.data.toList).toArray⟩) = tQuote x.s.data.toList := by
        have := congrArg (fun b : ByteArray => b.data.toList) e
        exact this
      have hm : (34 : UInt8) ∈ Lib.itoa (rdN ⟨(tQuote x.s.data.toList).toArray⟩) := by rw [e2, hq]; simp
      exact (itoa_low _ 34 hm).2 rfl
    unfold readV
    rw [if_neg hrd]
    have e1 : uqE (tQuote x.s.data.toList) = 0 := by unfold uqE; rw [hu]
    have e2 : uqS (tQuote x.s.data.toList) = sane x.s.data.toList := by unfold uqS; rw [hu]
    show (if uqE (tQuote x.s.data.toList) = 0 then some (⟨3, 0, ⟨(uqS (tQuote x.s.data.toList)).toArray⟩, []⟩ : Vv) else _) = _
    rw [e1, e2, if_pos rfl]
theorem no_mark {x : Vv} (h : Made x) : Lib.hasSuffix (textV x).data.toList markB.data.toList = false := by
  cases hs : Lib.hasSuffix (textV x).data.toList markB.data.toList with
  | false => rfl
  | true =>
    exfalso
    obtain ⟨a, ha⟩ := List.isSuffixOf_iff_suffix.1 hs
    have hm : markB.data.toList = [32, 91, 114, 101, 99, 111, 118, 101, 114, 101, 100] ++ [93] := rfl
    rw [hm, ← List.append_assoc] at ha
    rcases h.kind with h1 | h3
    · have ht : (textV x).data.toList = Lib.itoa x.n := by unfold textV; rw [if_pos h1]; rfl
      have h93 : (93 : UInt8) ∈ Lib.itoa x.n := by rw [← ht, ← ha]; simp
      have := (itoa_low _ _ h93).1
      revert this; decide
    · have h1 : ¬ x.kind = 1 := by omega
      have ht : (textV x).data.toList = (34 :: tBody x.s.data.toList) ++ [34] := by unfold textV; rw [if_neg h1, if_pos h3]; rfl
      rw [ht] at ha
      have h2 := List.append_inj_right' ha rfl
      revert h2; decide
theorem trim_pre (p r : List UInt8) : Lib.hasPrefix (p ++ r) p = true ∧ Lib.trimPrefix (p ++ r) p = r := by
  have h : Lib.hasPrefix (p ++ r) p = true := List.isPrefixOf_iff_prefix.2 (List.prefix_append p r)
  exact ⟨h, by unfold Lib.trimPrefix; rw [if_pos h]; simp⟩
theorem trim_suf (t m : List UInt8) : Lib.hasSuffix (t ++ m) m = true ∧ Lib.trimSuffix (t ++ m) m = t := by
  have h : Lib.hasSuffix (t ++ m) m = true := List.isSuffixOf_iff_suffix.2 (List.suffix_append t m)
  exact ⟨h, by unfold Lib.trimSuffix; rw [if_pos h]; simp⟩
/-- A line without its end. -/
def bodyL (k : Nat) (x : Vv) (b : Bool) : List UInt8 := leadL k ++ ((textV x).data.toList ++ (if b then markB.data.toList else []))
theorem line_body (k : Nat) (x : Vv) (b : Bool) : lineL k x b = bodyL k x b ++ [10] := by unfold lineL bodyL; simp only [List.append_assoc]
theorem body_noEnd (k : Nat) (x : Vv) (b : Bool) : noEnd (bodyL k x b) := by
  unfold bodyL
  refine noEnd_app ?_ (noEnd_app (noEnd_text x) ?_)
  · unfold leadL; split <;> (intro c hc; revert hc; revert c; decide)
  · split
    · intro c hc; revert hc; revert c; decide
    · intro c hc; cases hc
theorem ba_mk (s : ByteArray) : (⟨s.data.toList.toArray⟩ : ByteArray) = s := (str_of (s := s) rfl).symm
theorem read_line {x : Vv} (h : Made x) (k : Nat) (b : Bool) : readLn (bodyL k x b) k = some (backP x, b) := by
  unfold readLn bodyL
  obtain ⟨h1, h2⟩ := trim_pre (leadL k) ((textV x).data.toList ++ (if b then markB.data.toList else []))
  rw [if_pos h1, h2]
  cases b with
  | true =>
    obtain ⟨h3, h4⟩ := trim_suf (textV x).data.toList markB.data.toList
    simp only [if_true]
    unfold midL
    rw [h3, h4, ba_mk, read_text h]; rfl
  | false =>
    have h3 := no_mark h
    simp only [Bool.false_eq_true, if_false, List.append_nil]
    unfold midL
    have h4 : Lib.trimSuffix (textV x).data.toList markB.data.toList = (textV x).data.toList := by unfold Lib.trimSuffix; rw [if_neg (by rw [h3]; decide)]
    rw [h3, h4, ba_mk, read_text h]; rfl
theorem brk_line : ∀ (a r : List UInt8), noEnd a → brk (a ++ 10 :: r) = (a, r, true)
  | [], r, _ => by simp [brk]
  | c :: a, r, h => by
    have hc : c ≠ 10 := h c (by simp)
    have ih := brk_line a r (fun d hd => h d (by simp [hd]))
    show (if c = 10 then (_ : List UInt8 × List UInt8 × Bool) else (c :: (brk (a ++ 10 :: r)).1, (brk (a ++ 10 :: r)).2.1, (brk (a ++ 10 :: r)).2.2)) = _
    rw [if_neg hc, ih]
/-- A crash from a place on. -/
def crashT : Nat → List Pe → List UInt8
  | _, [] => []
  | k, e :: r => lineL k e.x e.rc ++ crashT (k + 1) r
theorem crashT_snoc : ∀ (a : List Pe) (k : Nat) (e : Pe), crashT k (a ++ [e]) = crashT k a ++ lineL (k + a.length) e.x e.rc
  | [], k, e => by simp [crashT]
  | q :: a, k, e => by
    show lineL k q.x q.rc ++ crashT (k + 1) (a ++ [e]) = _
    rw [crashT_snoc a (k + 1) e]
    show _ = (lineL k q.x q.rc ++ crashT (k + 1) a) ++ _
    rw [List.append_assoc, List.length_cons, show k + 1 + a.length = k + (a.length + 1) by omega]
theorem crashL_T (es : List Pe) : ∀ k, k ≤ es.length → crashL es k = crashT 0 (es.take k)
  | 0, _ => rfl
  | k + 1, h => by
    have he : es[k]? = some es[k] := List.getElem?_eq_getElem (by omega)
    rw [crashL_succ he, crashL_T es k (by omega), List.take_add_one, he]
    show _ = crashT 0 (es.take k ++ [es[k]])
    rw [crashT_snoc, Nat.zero_add, List.length_take, Nat.min_eq_left (by omega)]
theorem crashB_T (es : List Pe) : (crashB es).data.toList = crashT 0 es := by
  show crashL es es.length = _
  rw [crashL_T es _ (Nat.le_refl _), List.take_length]
def backs (es : List Pe) : List (Vv × Bool) := es.map fun e => (backP e.x, e.rc)
theorem crashT_pos (k : Nat) (e : Pe) (r : List Pe) : crashT k (e :: r) = bodyL k e.x e.rc ++ 10 :: crashT (k + 1) r := by
  show lineL k e.x e.rc ++ crashT (k + 1) r = _
  rw [line_body]; simp
theorem crashT_len : ∀ (es : List Pe) (k : Nat), es.length ≤ (crashT k es).length
  | [], k => Nat.le_refl _
  | e :: r, k => by
    have := crashT_len r (k + 1)
    rw [crashT_pos]
    simp only [List.length_append, List.length_cons]
    omega
theorem run_back : ∀ (es : List Pe) (k f : Nat), (∀ e ∈ es, Made e.x) → es.length < f → runR f (crashT k es) k = some (backs es)
  | [], k, f, _, hf => by
    obtain ⟨f', rfl⟩ : ∃ f', f = f' + 1 := ⟨f - 1, by simp at hf; omega⟩
    exact runR_nil f' k
  | e :: r, k, f, h, hf => by
    obtain ⟨f', rfl⟩ : ∃ f', f = f' + 1 := ⟨f - 1, by simp at hf; omega⟩
    have hb := brk_line (bodyL k e.x e.rc) (crashT (k + 1) r) (body_noEnd _ _ _)
    rw [crashT_pos]
    have hne : bodyL k e.x e.rc ++ 10 :: crashT (k + 1) r ≠ [] := by simp
    have hr : readLn (brk (bodyL k e.x e.rc ++ 10 :: crashT (k + 1) r)).1 k = some (backP e.x, e.rc) := by rw [hb]; exact read_line (h e (by simp)) k e.rc
    rw [runR_ok hne hr, hb]
    show (runR f' (crashT (k + 1) r) (k + 1)).map _ = _
    rw [run_back r (k + 1) f' (fun x hx => h x (by simp [hx])) (by simp at hf; omega)]
    rfl
theorem read_back {es : List Pe} (h : ∀ e ∈ es, Made e.x) : readAll (crashB es).data.toList = some (backs es) := by
  rw [crashB_T]
  unfold readAll
  exact run_back es 0 _ h (by have := crashT_len es 0; omega)
theorem crash_pes : ∀ (es : List Pe) (k : Nat), (∀ e ∈ es, Made e.x) → crashT k (pesOf k (backs es)) = crashT k es
  | [], k, _ => rfl
  | e :: r, k, h => by
    show lineL k (backP e.x) e.rc ++ crashT (k + 1) (pesOf (k + 1) (backs r)) = lineL k e.x e.rc ++ crashT (k + 1) r
    rw [crash_pes r (k + 1) (fun x hx => h x (by simp [hx]))]
    unfold lineL
    rw [back_text (h e (by simp))]
theorem crash_back {es : List Pe} (h : ∀ e ∈ es, Made e.x) : (crashB (pesOf 0 (backs es))).data.toList = (crashB es).data.toList := by
  rw [crashB_T, crashB_T, crash_pes es 0 h]
theorem back_vin {x : Vv} (h : Made x) : VIn (backP x) ∧ (backP x).s.size ≤ 1048576 ∧ (backP x).l.length ≤ 1048576 := by
  unfold backP
  split
  · exact ⟨⟨(by kernel_rfl : (Lit.int .i64 1).wf = true), h.vin.wn, by show (0 : Nat) ≤ _; omega, (fun i hi => by cases hi), by show 0 * 8 ≤ _; omega⟩, by show (0 : Nat) ≤ _; omega, by show (0 : Nat) ≤ _; omega⟩
  · have hl : (⟨(sane x.s.data.toList).toArray⟩ : ByteArray).size ≤ 100 := by
      show (sane x.s.data.toList).toArray.size ≤ _
      rw [List.size_toArray]
      have := bsize_list x.s
      have := h.short
      simp only [sane, List.length_map]; omega
    exact ⟨⟨(by kernel_rfl : (Lit.int .i64 3).wf = true), (by kernel_rfl : (Lit.int .i64 0).wf = true), by simp only; omega, (fun i hi => by cases hi), by show 0 * 8 ≤ _; omega⟩, by simp only; omega, by show (0 : Nat) ≤ _; omega⟩
theorem pes_in : ∀ (es : List Pe) (k : Nat), (∀ e ∈ es, Made e.x) → ∀ e ∈ pesOf k (backs es), VIn e.x ∧ e.x.s.size ≤ 1048576 ∧ e.x.l.length ≤ 1048576
  | [], k, _, e, he => by cases he
  | q :: r, k, h, e, he => by
    rcases List.mem_cons.1 (show e ∈ peOf k (backP q.x, q.rc) :: pesOf (k + 1) (backs r) from he) with rfl | he
    · exact back_vin (h q (by simp))
    · exact pes_in r (k + 1) (fun x hx => h x (by simp [hx])) e he
theorem back_in {es : List Pe} (h : ∀ e ∈ es, Made e.x) (hn : es.length ≤ 1048576) : PsIn (pesOf 0 (backs es)) :=
  ⟨pes_in es 0 h, by rw [pesOf_len]; simp only [backs, List.length_map]; exact hn⟩
theorem pes_at : ∀ (es : List Pe) (k i : Nat) (e : Pe), es[i]? = some e → (pesOf k (backs es))[i]? = some (peOf (k + i) (backP e.x, e.rc))
  | q :: r, k, 0, e, h => by simp at h; subst h; rfl
  | q :: r, k, i + 1, e, h => by
    have := pes_at r (k + 1) i e (by simpa using h)
    show (pesOf (k + 1) (backs r))[i]? = _
    rw [this, show k + 1 + i = k + (i + 1) by omega]
  | [], k, i, e, h => by simp at h
theorem back_kind {x : Vv} (h : Made x) : (backP x).kind = x.kind := by
  unfold backP
  rcases h.kind with h1 | h3
  · rw [if_pos h1, h1]
  · rw [if_neg (by omega), h3]
end Go.Proofs.YtncjaohiimenaabDoor
