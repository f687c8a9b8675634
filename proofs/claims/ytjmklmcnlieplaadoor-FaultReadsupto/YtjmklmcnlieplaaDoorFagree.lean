/- Both readings of a text agree: the plain side. -/
import Derived.Test.YtjmklmcnlieplaaDoorFreadf
namespace Go.Proofs.YtjmklmcnlieplaaDoor
open Go.ChangeShapes Go.WideShapes Go.ChangeAt Go.RowKit
set_option maxRecDepth 100000
set_option linter.unusedSimpArgs false
set_option linter.unusedVariables false
theorem drop_less (c : UInt8) (r : List UInt8) (k : Nat) : ((c :: r).drop (k + 1)).length ≤ r.length := by simp
theorem insF_more : ∀ (n : Nat) (l : List UInt8), l.length < n → insF n l = insF (l.length + 1) l := by
  intro n
  induction n using Nat.strongRecOn with
  | _ n ih =>
    intro l hl
    cases l with
    | nil => rw [insF_nil, insF_nil]
    | cons c r =>
      obtain ⟨m, rfl⟩ : ∃ m, n = m + 1 := ⟨n - 1, by omega⟩
      simp only [List.length_cons] at hl ⊢
      rw [insF, insF]
      split
      · have hd := drop_less c r ((c :: r).takeWhile isD).length
        rw [ih m (by omega) _ (by omega), ih (r.length + 1) (by omega) _ (by omega)]
      · rw [ih m (by omega) _ (by omega)]
/-- The numbers of a text. -/
def insL (l : List UInt8) : List Int := insF (l.length + 1) l
theorem ins_bt (l : List UInt8) : ins (bt l) = insL l := by unfold ins insL; rw [bt_size]; rfl
theorem insL_skip {c : UInt8} {r : List UInt8} (h : isD c = false) : insL (c :: r) = insL r := by
  unfold insL
  rw [List.length_cons, insF, if_neg (by simp [h])]
theorem insL_pre : ∀ (p l : List UInt8), (∀ c ∈ p, isD c = false) → insL (p ++ l) = insL l
  | [], _, _ => rfl
  | c :: p, l, h => by rw [List.cons_append, insL_skip (h c (by simp)), insL_pre p l (fun d hd => h d (by simp [hd]))]
theorem take_app {q : UInt8 → Bool} : ∀ {l r : List UInt8}, (∀ c ∈ l, q c = true) → (∀ c t, r = c :: t → q c = false) → (l ++ r).takeWhile q = l
  | [], [], _, _ => rfl
  | [], c :: t, _, h => by rw [List.nil_append, List.takeWhile_cons, if_neg (by simp [h c t rfl])]
  | a :: l, r, h, h2 => by rw [List.cons_append, List.takeWhile_cons, if_pos (h a (by simp)), take_app (fun c hc => h c (by simp [hc])) h2]
theorem insL_num (a : Int) (ha : I64 a) (r : List UInt8) (h : noD r) : insL (Lib.itoa a ++ r) = a :: insL (r.drop 1) := by
  obtain ⟨d, t, e⟩ : ∃ d t, Lib.itoa a = d :: t := by
    cases h : Lib.itoa a with
    | nil => exact absurd h (itoa_ne a)
    | cons d t => exact ⟨d, t, rfl⟩
  have hd : isD d = true := itoa_all a d (by rw [e]; simp)
  have ht := take_app (q := isD) (itoa_all a) h
  have e1 : (rdN (bt (Lib.itoa a))) = a := (rd_txt a ha.1 ha.2).1
  have hx : (Lib.itoa a ++ r).drop ((Lib.itoa a).length + 1) = r.drop 1 := by rw [List.drop_append]; simp
  have hc : Lib.itoa a ++ r = d :: (t ++ r) := by rw [e]; rfl
  unfold insL
  rw [hc] at ht hx ⊢
  rw [List.length_cons, insF, if_pos hd, ht, e1, hx]
  congr 1
  have hl : (t ++ r).length + 1 = ((d :: t) ++ r).length := by simp
  rw [insF_more _ _ (by simp; omega)]
theorem insL_nil : insL [] = [] := rfl
def leadL : List UInt8 := leadB.data.toList
theorem no_lead : ∀ c ∈ leadL, isD c = false := by decide
theorem nums0 (a b : Int) (ha : I64 a) (hb : I64 b) : insL (leadL ++ saidL (0, a, b)) = [a, b] := by
  rw [saidL0, insL_pre _ _ no_lead, insL_pre _ _ (by decide), insL_num a ha ([93, 32, 119, 105, 116, 104, 32, 108, 101, 110, 103, 116, 104, 32] ++ (Lib.itoa b ++ ([] ++ []))) (nod_cons rfl)]
  have h2 := insL_num b hb ([] ++ []) nod_nil
  have h1 := insL_pre [32, 119, 105, 116, 104, 32, 108, 101, 110, 103, 116, 104, 32] (Lib.itoa b ++ ([] ++ [])) (by decide)
  refine congrArg (a :: ·) ((show insL _ = _ from h1).trans (h2.trans ?_))
  rfl
theorem nums1 (a b : Int) (ha : I64 a) (hb : I64 b) : insL (leadL ++ saidL (1, a, b)) = [] := by
  rw [saidL1, insL_pre _ _ no_lead]
  have h := insL_pre [105, 110, 116, 101, 103, 101, 114, 32, 100, 105, 118, 105, 100, 101, 32, 98, 121, 32, 122, 101, 114, 111] [] (by decide)
  rw [List.append_nil] at h
  rw [h, insL_nil]
theorem nums2 (a b : Int) (ha : I64 a) (hb : I64 b) : insL (leadL ++ saidL (2, a, b)) = [] := by
  rw [saidL2, insL_pre _ _ no_lead]
  have h := insL_pre [110, 101, 103, 97, 116, 105, 118, 101, 32, 115, 104, 105, 102, 116, 32, 97, 109, 111, 117, 110, 116] [] (by decide)
  rw [List.append_nil] at h
  rw [h, insL_nil]
theorem nums3 (a b : Int) (ha : I64 a) (hb : I64 b) : insL (leadL ++ saidL (3, a, b)) = [] := by
  rw [saidL3, insL_pre _ _ no_lead]
  have h := insL_pre [105, 110, 118, 97, 108, 105, 100, 32, 109, 101, 109, 111, 114, 121, 32, 97, 100, 100, 114, 101, 115, 115, 32, 111, 114, 32, 110, 105, 108, 32, 112, 111, 105, 110, 116, 101, 114, 32, 100, 101, 114, 101, 102, 101, 114, 101, 110, 99, 101] [] (by decide)
  rw [List.append_nil] at h
  rw [h, insL_nil]
theorem nums4 (a b : Int) (ha : I64 a) (hb : I64 b) : insL (leadL ++ saidL (4, a, b)) = [a, b] := by
  rw [saidL4, insL_pre _ _ no_lead, insL_pre _ _ (by decide), insL_num a ha ([93, 32, 119, 105, 116, 104, 32, 108, 101, 110, 103, 116, 104, 32] ++ (Lib.itoa b ++ ([] ++ []))) (nod_cons rfl)]
  have h2 := insL_num b hb ([] ++ []) nod_nil
  have h1 := insL_pre [32, 119, 105, 116, 104, 32, 108, 101, 110, 103, 116, 104, 32] (Lib.itoa b ++ ([] ++ [])) (by decide)
  refine congrArg (a :: ·) ((show insL _ = _ from h1).trans (h2.trans ?_))
  rfl
theorem nums5 (a b : Int) (ha : I64 a) (hb : I64 b) : insL (leadL ++ saidL (5, a, b)) = [a, b] := by
  rw [saidL5, insL_pre _ _ no_lead, insL_pre _ _ (by decide), insL_num a ha ([58] ++ (Lib.itoa b ++ ([93] ++ []))) (nod_cons rfl)]
  have h2 := insL_num b hb ([93] ++ []) (nod_cons rfl)
  have h1 := insL_pre [] (Lib.itoa b ++ ([93] ++ [])) (by decide)
  refine congrArg (a :: ·) ((show insL _ = _ from h1).trans (h2.trans ?_))
  rfl
theorem nums6 (a b : Int) (ha : I64 a) (hb : I64 b) : insL (leadL ++ saidL (6, a, b)) = [a] := by
  rw [saidL6, insL_pre _ _ no_lead, insL_pre _ _ (by decide), insL_num a ha ([58, 93] ++ []) (nod_cons rfl)]
  have h := insL_pre [93] [] (by decide)
  rw [List.append_nil] at h
  exact congrArg (a :: ·) (h.trans insL_nil)
theorem nums7 (a b : Int) (ha : I64 a) (hb : I64 b) : insL (leadL ++ saidL (7, a, b)) = [] := by
  rw [saidL7, insL_pre _ _ no_lead]
  have h := insL_pre [110, 111, 32, 105, 110, 116, 32, 105, 110, 32, 97, 110, 121] [] (by decide)
  rw [List.append_nil] at h
  rw [h, insL_nil]
theorem nums8 (a b : Int) (ha : I64 a) (hb : I64 b) : insL (leadL ++ saidL (8, a, b)) = [a, b] := by
  rw [saidL8, insL_pre _ _ no_lead, insL_pre _ _ (by decide), insL_num a ha ([32, 105, 115, 32, 97, 98, 111, 118, 101, 32] ++ (Lib.itoa b ++ ([] ++ []))) (nod_cons rfl)]
  have h2 := insL_num b hb ([] ++ []) nod_nil
  have h1 := insL_pre [105, 115, 32, 97, 98, 111, 118, 101, 32] (Lib.itoa b ++ ([] ++ [])) (by decide)
  refine congrArg (a :: ·) ((show insL _ = _ from h1).trans (h2.trans ?_))
  rfl
theorem nums9 (a b : Int) (ha : I64 a) (hb : I64 b) : insL (leadL ++ saidL (9, a, b)) = [] := by
  rw [saidL9, insL_pre _ _ no_lead]
  have h := insL_pre [112, 97, 110, 105, 99, 32, 99, 97, 108, 108, 101, 100, 32, 119, 105, 116, 104, 32, 110, 105, 108] [] (by decide)
  rw [List.append_nil] at h
  rw [h, insL_nil]
/-- The numbers of what an error tells are those of its form's gaps. -/
theorem nums_text {x : Fl} (hx : FIn x) (h : (toldF x).1 < 10) : numA (textF x) = (toldF x).2.1 ∧ numB (textF x) = (toldF x).2.2 := by
  obtain ⟨-, q0, q1⟩ := told_in hx
  have hk := told_ok x
  have e : ins (textF x) = insL (leadL ++ saidL (toldF x)) := by rw [text_lead h, ins_bt]; rfl
  unfold numA numB
  rw [e]
  generalize toldF x = t at *
  obtain ⟨i, a, b⟩ := t
  dsimp only at *
  rcases ten i h with rfl | rfl | rfl | rfl | rfl | rfl | rfl | rfl | rfl | rfl
  · rw [nums0 a b q0 q1]; exact ⟨rfl, rfl⟩
  · rw [nums1 a b q0 q1]; obtain ⟨rfl, rfl⟩ : a = 0 ∧ b = 0 := hk.1 (by simp)
    exact ⟨rfl, rfl⟩
  · rw [nums2 a b q0 q1]; obtain ⟨rfl, rfl⟩ : a = 0 ∧ b = 0 := hk.1 (by simp)
    exact ⟨rfl, rfl⟩
  · rw [nums3 a b q0 q1]; obtain ⟨rfl, rfl⟩ : a = 0 ∧ b = 0 := hk.1 (by simp)
    exact ⟨rfl, rfl⟩
  · rw [nums4 a b q0 q1]; exact ⟨rfl, rfl⟩
  · rw [nums5 a b q0 q1]; exact ⟨rfl, rfl⟩
  · rw [nums6 a b q0 q1]; obtain rfl : b = 0 := hk.2 rfl
    exact ⟨rfl, rfl⟩
  · rw [nums7 a b q0 q1]; obtain ⟨rfl, rfl⟩ : a = 0 ∧ b = 0 := hk.1 (by simp)
    exact ⟨rfl, rfl⟩
  · rw [nums8 a b q0 q1]; exact ⟨rfl, rfl⟩
  · rw [nums9 a b q0 q1]; obtain ⟨rfl, rfl⟩ : a = 0 ∧ b = 0 := hk.1 (by simp)
    exact ⟨rfl, rfl⟩
theorem said_short (t : Nat × Int × Int) (h : t.1 < 10) (h0 : I64 t.2.1) (h1 : I64 t.2.2) : (saidL t).length ≤ 100 := by
  obtain ⟨i, a, b⟩ := t
  dsimp only at *
  have la := Lib.itoa_length_le a h0.1 h0.2
  have lb := Lib.itoa_length_le b h1.1 h1.2
  rcases ten i h with rfl | rfl | rfl | rfl | rfl | rfl | rfl | rfl | rfl | rfl
  · rw [saidL0]; simp; try omega
  · rw [saidL1]; simp; try omega
  · rw [saidL2]; simp; try omega
  · rw [saidL3]; simp; try omega
  · rw [saidL4]; simp; try omega
  · rw [saidL5]; simp; try omega
  · rw [saidL6]; simp; try omega
  · rw [saidL7]; simp; try omega
  · rw [saidL8]; simp; try omega
  · rw [saidL9]; simp; try omega
theorem text_200 {x : Fl} (hx : FIn x) (h : (toldF x).1 < 10) : (textF x).size ≤ 200 := by
  obtain ⟨-, q0, q1⟩ := told_in hx
  have := said_short _ h q0 q1
  have e : leadB.data.toList.length = 15 := rfl
  rw [text_lead h, bt_size, List.length_append]
  omega
/-! Another of the forms of bounds does not match. -/
theorem isD_ne {d : UInt8} (h : isD d = true) : d ≠ 58 ∧ d ≠ 93 := ⟨fun e => absurd h (by rw [e]; decide), fun e => absurd h (by rw [e]; decide)⟩
theorem itoa_cons (a : Int) : ∃ d t, Lib.itoa a = d :: t ∧ isD d = true := by
  cases h : Lib.itoa a with
  | nil => exact absurd h (itoa_ne a)
  | cons d t => exact ⟨d, t, rfl, itoa_all a d (by rw [h]; simp)⟩
theorem rde_nil : ¬ rdE (bt []) = 0 := by decide
theorem none0 {p : ByteArray} {ps : List ByteArray} {t : ByteArray} (h : haspB t p = false) : matchF (p :: ps) t = none :=
  match_none (k := 1) ((MM_succ (s := (t, 0, 0)) (p := p) rfl rfl).trans (by unfold M1; rw [if_pos rfl, if_neg (by simp [h])])) (by simp)
theorem none1 {p : List UInt8} {q : ByteArray} {ps : List ByteArray} {r : List UInt8} (h : noD r) : matchF (bt p :: q :: ps) (bt (p ++ r)) = none := by
  have e1 : MM (bt p :: q :: ps) (bt (p ++ r)) 1 = some (bt r, 0, 0) := (MM_succ (k := 0) rfl rfl).trans (m1_zero p r (0, 0))
  refine match_none (k := 2) ((MM_succ (k := 1) (p := q) e1 rfl).trans ?_) (by simp)
  unfold M1
  rw [if_neg (by decide), digs_nod r h, if_neg rde_nil]
theorem no45 (a b : Int) : matchF (formP 4) (bt (saidL (5, a, b))) = none := by
  obtain ⟨d, t, e, hd⟩ := itoa_cons a
  rw [saidL5, formP4]
  refine none0 ?_
  rw [e]
  show (List.isPrefixOf _ _) = false
  simp [bt]
  rw [List.isPrefixOf_cons_cons, show ((58 : UInt8) == d) = false from beq_eq_false_iff_ne.2 (isD_ne hd).1.symm]; rfl
theorem no46 (a b : Int) : matchF (formP 4) (bt (saidL (6, a, b))) = none := by
  obtain ⟨d, t, e, hd⟩ := itoa_cons a
  rw [saidL6, formP4]
  refine none0 ?_
  rw [e]
  show (List.isPrefixOf _ _) = false
  simp [bt]
  rw [List.isPrefixOf_cons_cons, show ((58 : UInt8) == d) = false from beq_eq_false_iff_ne.2 (isD_ne hd).1.symm]; rfl
theorem said4_pre (a b : Int) : ∃ r, saidL (4, a, b) = [115, 108, 105, 99, 101, 32, 98, 111, 117, 110, 100, 115, 32, 111, 117, 116, 32, 111, 102, 32, 114, 97, 110, 103, 101, 32, 91] ++ (58 :: r) := ⟨_, by rw [saidL4]; rfl⟩
theorem no54 (a b : Int) : matchF (formP 5) (bt (saidL (4, a, b))) = none := by
  obtain ⟨r, e⟩ := said4_pre a b
  rw [e, formP5]; exact none1 (nod_cons rfl)
theorem no64 (a b : Int) : matchF (formP 6) (bt (saidL (4, a, b))) = none := by
  obtain ⟨r, e⟩ := said4_pre a b
  rw [e, formP6]; exact none1 (nod_cons rfl)
theorem no56 (a b : Int) (ha : I64 a) : matchF (formP 5) (bt (saidL (6, a, b))) = none := by
  rw [saidL6, formP5]
  have e1 := (MM_succ (k := 0) (ps := [bt [115, 108, 105, 99, 101, 32, 98, 111, 117, 110, 100, 115, 32, 111, 117, 116, 32, 111, 102, 32, 114, 97, 110, 103, 101, 32, 91], bt [58], bt [93]]) (t := bt ([115, 108, 105, 99, 101, 32, 98, 111, 117, 110, 100, 115, 32, 111, 117, 116, 32, 111, 102, 32, 114, 97, 110, 103, 101, 32, 91] ++ (Lib.itoa a ++ ([58] ++ [93])))) rfl rfl).trans (m1_zero [115, 108, 105, 99, 101, 32, 98, 111, 117, 110, 100, 115, 32, 111, 117, 116, 32, 111, 102, 32, 114, 97, 110, 103, 101, 32, 91] (Lib.itoa a ++ ([58] ++ [93])) (0, 0))
  have e2 := (MM_succ (k := 1) (p := bt [58]) e1 rfl).trans (m1_one [58] [93] a 0 0 ha (nod_cons rfl))
  refine match_none (k := 3) ((MM_succ (k := 2) (p := bt [93]) e2 rfl).trans ?_) (by simp)
  unfold M1
  rw [if_neg (by decide), digs_nod [93] (nod_cons rfl), if_neg rde_nil]
theorem no65 (a b : Int) (ha : I64 a) : matchF (formP 6) (bt (saidL (5, a, b))) = none := by
  obtain ⟨d, t, e, hd⟩ := itoa_cons b
  rw [saidL5, formP6]
  have e1 := (MM_succ (k := 0) (ps := [bt [115, 108, 105, 99, 101, 32, 98, 111, 117, 110, 100, 115, 32, 111, 117, 116, 32, 111, 102, 32, 114, 97, 110, 103, 101, 32, 91], bt [58, 93]]) (t := bt ([115, 108, 105, 99, 101, 32, 98, 111, 117, 110, 100, 115, 32, 111, 117, 116, 32, 111, 102, 32, 114, 97, 110, 103, 101, 32, 91] ++ (Lib.itoa a ++ ([58] ++ (Lib.itoa b ++ ([93] ++ [])))))) rfl rfl).trans (m1_zero [115, 108, 105, 99, 101, 32, 98, 111, 117, 110, 100, 115, 32, 111, 117, 116, 32, 111, 102, 32, 114, 97, 110, 103, 101, 32, 91] (Lib.itoa a ++ ([58] ++ (Lib.itoa b ++ ([93] ++ [])))) (0, 0))
  refine match_none (k := 2) ((MM_succ (k := 1) (p := bt [58, 93]) e1 rfl).trans ?_) (by simp)
  have hn : noD ([58] ++ (Lib.itoa b ++ ([93] ++ []))) := nod_cons rfl
  obtain ⟨x1, x2⟩ := rd_txt a ha.1 ha.2
  unfold M1
  rw [if_neg (by decide), digs_num a _ hn, if_pos x2, rest_num a _ hn, if_neg ?_]
  rw [e]
  show ¬ (List.isPrefixOf _ _) = true
  simp [bt]
  exact (isD_ne hd).2.symm
theorem pairs : ∀ i j : Fin 10, kindOf i.val = kindOf j.val → i ≠ j → (i.val = 4 ∨ i.val = 5 ∨ i.val = 6) ∧ (j.val = 4 ∨ j.val = 5 ∨ j.val = 6) := by decide
theorem pairs_of {i j : Nat} (hi : i < 10) (hj : j < 10) (hk : kindOf i = kindOf j) (hne : i ≠ j) : (i = 4 ∨ i = 5 ∨ i = 6) ∧ (j = 4 ∨ j = 5 ∨ j = 6) :=
  pairs ⟨i, hi⟩ ⟨j, hj⟩ hk (fun e => hne (congrArg Fin.val e))
theorem no_other (i j : Nat) (hi : i < 10) (hj : j < 10) (hk : kindOf i = kindOf j) (hne : i ≠ j) (a b : Int) (ha : I64 a) : matchF (formP i) (bt (saidL (j, a, b))) = none := by
  obtain ⟨h1, h2⟩ := pairs_of hi hj hk hne
  clear hk hi hj
  rcases h1 with rfl | rfl | rfl
  · rcases h2 with rfl | rfl | rfl
    · exact absurd rfl hne
    · exact no45 a b
    · exact no46 a b
  · rcases h2 with rfl | rfl | rfl
    · exact no54 a b
    · exact absurd rfl hne
    · exact no56 a b ha
  · rcases h2 with rfl | rfl | rfl
    · exact no64 a b
    · exact no65 a b ha
    · exact absurd rfl hne
/-- The same text is told by the same form, with the same numbers. -/
theorem told_unique {x y : Fl} (hx : FIn x) (hy : FIn y) (h : (toldF x).1 < 10) (h2 : (toldF y).1 < 10) (e : textF y = textF x) : toldF y = toldF x := by
  obtain ⟨-, x0, x1⟩ := told_in hx
  obtain ⟨-, y0, y1⟩ := told_in hy
  have mx := match_said _ h x0 x1 (told_ok x)
  have my := match_said _ h2 y0 y1 (told_ok y)
  rw [text_lead h, text_lead h2] at e
  have e2 := List.append_cancel_left (bt_inj e)
  have e3 : pre3 (toldF y).1 = pre3 (toldF x).1 := by rw [← said_pre _ h2, ← said_pre _ h, e2]
  have hk := pre_kind _ _ h2 h e3
  by_cases hne : (toldF y).1 = (toldF x).1
  · rw [e2, hne, mx] at my
    exact Prod.ext hne (Option.some.inj my).symm
  · exfalso
    have := no_other _ _ h2 h hk hne (toldF x).2.1 (toldF x).2.2 x0
    rw [e2, show toldF x = ((toldF x).1, (toldF x).2.1, (toldF x).2.2) from rfl, this] at my
    cases my
theorem meant_kind (i : Nat) (h : i < 10) (a b : Int) : (meantF i a b).k = kindOf i := by
  rcases ten i h with rfl | rfl | rfl | rfl | rfl | rfl | rfl | rfl | rfl | rfl <;> rfl
/-- What the program finds is what the text's form means. -/
theorem own_canon {s : ByteArray} {i : Nat} {n0 n1 : Int} (hi : i < 10) (q0 : I64 n0) (q1 : I64 n1) (hs : textF (meantF i n0 n1) = s) (hh : haspB s leadB = true) (hm : matchF (formP i) (cutpB s leadB) = some (n0, n1)) :
    (toldF (meantF i n0 n1)).1 < 10 ∧ toldF (meantF i n0 n1) = (i, n0, n1) := by
  have hg := meant_in i hi q0 q1
  have ht : (toldF (meantF i n0 n1)).1 < 10 := by
    by_cases h : (toldF (meantF i n0 n1)).1 < 10
    · exact h
    · rw [← hs, told_10 hg h] at hh; exact absurd hh (by decide)
  refine ⟨ht, ?_⟩
  obtain ⟨-, m1⟩ := text_match hg ht
  have hc : cutpB s leadB = bt (saidL (toldF (meantF i n0 n1))) := by
    rw [← hs, text_lead ht]
    have := cutp_app leadB.data.toList (saidL (toldF (meantF i n0 n1)))
    rwa [bt_eta] at this
  have hk : kindOf i = kindOf (toldF (meantF i n0 n1)).1 := by rw [← meant_kind i hi n0 n1]; exact told_kind ht
  rw [hs] at m1
  by_cases hne : i = (toldF (meantF i n0 n1)).1
  · rw [← hne, hm] at m1
    exact (Prod.ext hne (Option.some.inj m1)).symm
  · exfalso
    have := no_other _ _ hi ht hk hne (toldF (meantF i n0 n1)).2.1 (toldF (meantF i n0 n1)).2.2 (told_in hg).2.1
    rw [hc, show toldF (meantF i n0 n1) = ((toldF (meantF i n0 n1)).1, (toldF (meantF i n0 n1)).2.1, (toldF (meantF i n0 n1)).2.2) from rfl, this] at hm
    cases hm
theorem ord_of (j : Nat) (h : j < 10) : ∃ k, k < 10 ∧ ordF k = j := by
  rcases ten j h with rfl | rfl | rfl | rfl | rfl | rfl | rfl | rfl | rfl | rfl
  · exact ⟨0, by decide, rfl⟩
  · exact ⟨1, by decide, rfl⟩
  · exact ⟨2, by decide, rfl⟩
  · exact ⟨3, by decide, rfl⟩
  · exact ⟨7, by decide, rfl⟩
  · exact ⟨8, by decide, rfl⟩
  · exact ⟨9, by decide, rfl⟩
  · exact ⟨4, by decide, rfl⟩
  · exact ⟨6, by decide, rfl⟩
  · exact ⟨5, by decide, rfl⟩
set_option maxHeartbeats 4000000 in
theorem ref_canon {k j : Nat} {p0 p1 : Int} (hk : k < 10) (hj : j < 10) (ht : toldF (tryF k p0 p1) = (j, p0, p1)) (hno : ∀ i, i < k → textF (tryF i p0 p1) ≠ textF (tryF k p0 p1)) : tryF k p0 p1 = meantF j p0 p1 := by
  have hkk : kindOf (ordF k) = kindOf j := by
    have h1 := meant_kind (ordF k) (ord_lt hk) p0 p1
    have h2 := told_kind (x := tryF k p0 p1) (by rw [ht]; exact hj)
    rw [ht] at h2
    exact h1.symm.trans h2
  by_cases hne : ordF k = j
  · unfold tryF; rw [hne]
  · have hs : (ordF k = 4 ∨ ordF k = 5 ∨ ordF k = 6) ∧ (j = 4 ∨ j = 5 ∨ j = 6) := pairs_of (ord_lt hk) hj hkk hne
    have hkv : k = 7 ∨ k = 8 ∨ k = 9 := by
      have h1 := hs.1
      clear hs hno ht hkk hne
      rcases ten k hk with rfl | rfl | rfl | rfl | rfl | rfl | rfl | rfl | rfl | rfl <;> simp [ordF] at h1 ⊢
    rcases hkv with rfl | rfl | rfl
    · exfalso
      have hne4 : j ≠ 4 := fun e => hne e.symm
      have ht : toldF ⟨5, 0, p0, p1⟩ = (j, p0, p1) := ht
      unfold toldF toldB at ht
      dsimp only at ht
      repeat' split at ht
      all_goals (simp only [Prod.mk.injEq] at ht; omega)
    · have hne5 : j ≠ 5 := fun e => hne e.symm
      have ht' : toldF ⟨5, p0, p1, p1⟩ = (j, p0, p1) := ht
      unfold toldF toldB at ht'
      dsimp only at ht'
      rcases hs.2 with rfl | rfl | rfl
      · exfalso
        have hp : p0 = p1 ∧ p1 < 0 := by
          repeat' split at ht'
          all_goals (simp only [Prod.mk.injEq] at ht'; omega)
        obtain ⟨rfl, hp1⟩ := hp
        refine hno 7 (by decide) ?_
        unfold textF
        rw [ht]
        have : toldF (tryF 7 p0 p0) = (4, p0, p0) := by
          show toldF ⟨5, 0, p0, p0⟩ = _
          unfold toldF toldB
          dsimp only
          repeat' split
          all_goals first | rfl | (exfalso; omega)
        rw [this]
      · exact absurd rfl hne5
      · have hp : p1 = 0 := by
          repeat' split at ht'
          all_goals (simp only [Prod.mk.injEq] at ht'; omega)
        subst hp; rfl
    · have hne6 : j ≠ 6 := fun e => hne e.symm
      have ht' : toldF ⟨5, p0, 0, 0⟩ = (j, p0, p1) := ht
      unfold toldF toldB at ht'
      dsimp only at ht'
      rcases hs.2 with rfl | rfl | rfl
      · exfalso
        repeat' split at ht'
        all_goals (simp only [Prod.mk.injEq] at ht'; omega)
      · have hp : p1 = 0 := by
          repeat' split at ht'
          all_goals (simp only [Prod.mk.injEq] at ht'; omega)
        subst hp; rfl
      · exact absurd rfl hne6
/-- Both readings agree. -/
theorem reads_agree {s : ByteArray} {g g' : Fl} {e e' : Int} (h : ReadsAs s g e) (h' : RefAs s g' e') : g = g' ∧ e = e' := by
  have hnum := nums_in s
  rcases h with ⟨rfl, i, n0, n1, hi, q0, q1, hh, hm, rfl, hs⟩ | ⟨rfl, rfl, hno⟩
  · obtain ⟨ht, hc⟩ := own_canon hi q0 q1 hs hh hm
    have hg := meant_in i hi q0 q1
    have hnt := nums_text hg ht
    rw [hs, hc] at hnt
    rcases h' with ⟨rfl, hse, k, hk, rfl, hs', hno'⟩ | ⟨rfl, rfl, h6⟩
    · refine ⟨?_, rfl⟩
      rw [hnt.1, hnt.2] at hs' hno' ⊢
      have hg' := try_in hk q0 q1
      have ht' : (toldF (tryF k n0 n1)).1 < 10 := by
        by_cases hx : (toldF (tryF k n0 n1)).1 < 10
        · exact hx
        · exact absurd (hs'.symm.trans (told_10 hg' hx)) hse
      have hu := told_unique hg hg' ht ht' (hs'.trans hs.symm)
      rw [hc] at hu
      exact (ref_canon hk hi hu (fun j hj => by rw [hs']; exact hno' j hj)).symm
    · exfalso
      rcases h6 with h6 | h6 | h6
      · have := text_200 hg ht; rw [hs] at this; omega
      · exact text_ne ht (hs.trans h6)
      · obtain ⟨k, hk, ho⟩ := ord_of i hi
        refine h6 k hk ?_
        rw [hnt.1, hnt.2]
        unfold tryF
        rw [ho]; exact hs
  · rcases h' with ⟨rfl, hse, k, hk, rfl, hs', hno'⟩ | ⟨rfl, rfl, h6⟩
    · exfalso
      have hg' := try_in hk hnum.1 hnum.2
      have ht' : (toldF (tryF k (numA s) (numB s))).1 < 10 := by
        by_cases hx : (toldF (tryF k (numA s) (numB s))).1 < 10
        · exact hx
        · exact absurd (hs'.symm.trans (told_10 hg' hx)) hse
      obtain ⟨m1, m2⟩ := text_match hg' ht'
      obtain ⟨c1, -⟩ := canon ht'
      rw [hs'] at m1 m2
      refine hno m1 _ _ _ ht' m2 (Eq.trans ?_ hs')
      unfold textF
      rw [c1]
    · exact ⟨rfl, rfl⟩
end Go.Proofs.YtjmklmcnlieplaaDoor
