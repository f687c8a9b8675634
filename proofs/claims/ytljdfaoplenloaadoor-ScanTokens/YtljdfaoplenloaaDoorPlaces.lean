/- Where the tokens stand: plain laws of the scanner's state. -/
import Derived.Test.YtljdfaoplenloaaDoorTok3
namespace Go.Proofs.YtljdfaoplenloaaDoor
open Go.RowKit
set_option linter.unusedSimpArgs false
set_option linter.unusedVariables false

/-- Line and column of a place. -/
def plc (l : List UInt8) : Nat → Nat × Nat
  | 0 => (1, 1)
  | k + 1 => if l[k]? = some 10 then ((plc l k).1 + 1, 1) else ((plc l k).1, (plc l k).2 + 1)
theorem plc_nl {l : List UInt8} {k : Nat} (h : l[k]? = some 10) : plc l (k + 1) = ((plc l k).1 + 1, 1) := by rw [plc, if_pos h]
theorem plc_on {l : List UInt8} {k : Nat} (h : l[k]? ≠ some 10) : plc l (k + 1) = ((plc l k).1, (plc l k).2 + 1) := by rw [plc, if_neg h]
theorem plc_many {l : List UInt8} {k : Nat} : ∀ n, (∀ j, j < n → l[k + j]? ≠ some 10) → plc l (k + n) = ((plc l k).1, (plc l k).2 + n)
  | 0, _ => rfl
  | n + 1, h => by
    rw [show k + (n + 1) = (k + n) + 1 from rfl, plc_on (h n (by omega)), plc_many n (fun j hj => h j (by omega))]
    rfl
/-- A token stands at p. -/
def Stands (src : ByteArray) (t : Tk) (p : Nat) : Prop :=
  plc src.data.toList p = (t.line, t.col) ∧ ((p + t.text.size ≤ src.size ∧ src.extract p (p + t.text.size) = t.text) ∨ (t.kind = 6 ∧ t.text = ⟨#[59]⟩ ∧ (p = src.size ∨ src.data.toList[p]? = some 10)))
/-- Tokens one behind another, from lo on up to hi. -/
def Chain (src : ByteArray) (hi : Nat) : Nat → List Tk → Prop
  | lo, [] => lo ≤ hi
  | lo, t :: ts => ∃ p, lo ≤ p ∧ p ≤ src.size ∧ Stands src t p ∧ Chain src hi p ts
theorem Chain.up {src : ByteArray} {hi hi' : Nat} (h : hi ≤ hi') : ∀ {lo : Nat} {ts : List Tk}, Chain src hi lo ts → Chain src hi' lo ts
  | _, [], hc => Nat.le_trans hc h
  | _, _ :: _, ⟨p, h1, h2, h3, h4⟩ => ⟨p, h1, h2, h3, Chain.up h h4⟩
theorem Chain.snoc {src : ByteArray} {hi p : Nat} {t : Tk} (hp : hi ≤ p) (hs : p ≤ src.size) (ht : Stands src t p) : ∀ {lo : Nat} {ts : List Tk}, Chain src hi lo ts → Chain src p lo (ts ++ [t])
  | _, [], hc => ⟨p, Nat.le_trans hc hp, hs, ht, Nat.le_refl _⟩
  | _, _ :: _, ⟨q, h1, h2, h3, h4⟩ => ⟨q, h1, h2, h3, Chain.snoc hp hs ht h4⟩
/-- The state tells places rightly. -/
structure Sc.In (src : ByteArray) (s : Sc) : Prop where
  ok : s.Ok src
  plc : plc src.data.toList s.pos = (s.line, s.col)
  chain : Chain src s.pos 0 s.ts
theorem add_in {src : ByteArray} {s s' : Sc} {k : Int} {t : ByteArray} (h : s.In src) (ha : s.addR k t = .ok s') (hst : Stands src ⟨k, t, s.line, s.col⟩ s.pos) : Chain src s.pos 0 s'.ts := by
  unfold Sc.addR at ha
  split at ha
  · cases ha
  · cases ha; exact Chain.snoc (Nat.le_refl _) h.ok.pos hst h.chain
theorem close_in {src : ByteArray} {s s' : Sc} (h : s.In src) (hc : s.closeR = .ok s') (hp : s.pos = src.size ∨ src.data.toList[s.pos]? = some 10) : Chain src s.pos 0 s'.ts := by
  unfold Sc.closeR at hc
  split at hc
  · cases hc; exact h.chain
  · split at hc
    · exact add_in h hc ⟨h.plc, .inr ⟨rfl, rfl, hp⟩⟩
    · cases hc; exact h.chain
theorem ext_get {src : ByteArray} {p j : Nat} (h : p + j < src.size) : (src.extract p src.size).data.toList[j]? = src.data.toList[p + j]? := by
  rw [drop_list, List.getElem?_drop]
/-- No line ends within a token, or a remark. -/
theorem mem_tw {p : UInt8 → Bool} : ∀ {l : List UInt8} {c : UInt8}, c ∈ l.takeWhile p → p c = true
  | [], _, h => by simp at h
  | a :: l, c, h => by
    cases ha : p a with
    | false => simp [List.takeWhile, ha] at h
    | true =>
      simp [List.takeWhile, ha] at h
      rcases h with rfl | h
      · exact ha
      · exact mem_tw h
theorem lod_no {c : UInt8} (h : lod c = true) : c ≠ 10 := by rintro rfl; revert h; decide
theorem runN_no (l : List UInt8) (j : Nat) (h : j < runN l) : l[j]? ≠ some 10 := by
  intro e
  have h1 : (l.takeWhile lod)[j]? = some 10 := by
    obtain ⟨t, ht⟩ := List.takeWhile_prefix (l := l) lod
    rw [← ht, List.getElem?_append_left h] at e
    exact e
  have h2 := mem_tw (List.mem_of_getElem? h1)
  exact lod_no h2 rfl
theorem lnN_no (l : List UInt8) (j : Nat) (h : j < lnN l) : l[j]? ≠ some 10 := by
  intro e
  have h1 : (l.takeWhile (fun c => c != 10))[j]? = some 10 := by
    obtain ⟨t, ht⟩ := List.takeWhile_prefix (l := l) (fun c => c != 10)
    rw [← ht, List.getElem?_append_left h] at e
    exact e
  have h2 := mem_tw (List.mem_of_getElem? h1)
  simp at h2
theorem esc_no {d x : UInt8} (h : esc d = some x) : d ≠ 10 := by rintro rfl; rw [show esc 10 = none by decide] at h; cases h
theorem rd_no10 : ∀ (l s : List UInt8) (n : Nat), rd l = some (s, n) → ∀ j, j < n → l[j]? ≠ some 10 := by
  intro l
  induction hn : l.length using Nat.strongRecOn generalizing l with
  | ind m ih =>
    intro s n h j hj
    cases l with
    | nil => simp [rd] at h
    | cons c r =>
      simp only [List.length_cons] at hn
      rw [rd_cons] at h
      split at h
      · rename_i hc; cases h; subst hc
        obtain rfl : j = 0 := by omega
        simp
      · rename_i h34
        split at h
        · rename_i hc
          subst hc
          cases r with
          | nil => cases h
          | cons d r' =>
            simp only at h
            cases he : esc d with
            | none => rw [he] at h; cases h
            | some x =>
              rw [he] at h
              obtain ⟨⟨s', n'⟩, h1, h2⟩ := Option.map_eq_some_iff.1 h
              simp only [Prod.mk.injEq] at h2
              obtain ⟨rfl, rfl⟩ := h2
              simp only [List.length_cons] at hn
              match j with
              | 0 => simp
              | 1 => simp; exact esc_no he
              | j + 2 =>
                have := ih r'.length (by omega) r' rfl s' n' h1 j (by omega)
                simpa using this
        · rename_i h92
          split at h
          · rename_i hp
            obtain ⟨⟨s', n'⟩, h1, h2⟩ := Option.map_eq_some_iff.1 h
            simp only [Prod.mk.injEq] at h2
            obtain ⟨rfl, rfl⟩ := h2
            match j with
            | 0 =>
              simp
              rintro rfl
              exact absurd hp.1 (by decide)
            | j + 1 =>
              have := ih r.length (by omega) r rfl s' n' h1 j (by omega)
              simpa using this
          · cases h
theorem rq_no10 {l : List UInt8} (h : rqE l = 0) (j : Nat) (hj : j < rqN l) : l[j]? ≠ some 10 := by
  unfold rqE at h
  cases hq : rq l with
  | none => rw [hq] at h; cases h
  | some p =>
    obtain ⟨u, n⟩ := p
    have e : rqN l = n := by unfold rqN; rw [hq]
    rw [e] at hj
    cases l with
    | nil => cases hq
    | cons c r =>
      simp only [rq] at hq
      split at hq
      · rename_i hc
        obtain ⟨⟨s', n'⟩, g1, g2⟩ := Option.bind_eq_some_iff.1 hq
        simp only at g2
        split at g2
        · simp only [Option.some.injEq, Prod.mk.injEq] at g2
          obtain ⟨rfl, rfl⟩ := g2
          match j with
          | 0 => simp [hc]
          | j + 1 =>
            have := rd_no10 _ _ _ g1 j (by omega)
            simpa using this
        · cases g2
      · cases hq
theorem sgn_no10 {s : ByteArray} (h : sgnB s = true) (j : Nat) : s.data.toList[j]? ≠ some 10 := by
  unfold sgnB at h
  obtain ⟨t, ht, he⟩ := List.any_eq_true.1 h
  have e : s.data.toList = t.data.toList := by
    have := eq_of_beq he
    rwa [ByteArray.toList_eq, ByteArray.toList_eq] at this
  rw [e]
  intro hc
  have h2 : (10 : UInt8) ∈ t.data.toList := List.mem_of_getElem? hc
  have h3 : ∀ t ∈ sgnL, (10 : UInt8) ∉ t.data.toList := by decide
  exact h3 t ht h2
theorem ext_get0 {s : ByteArray} {n j : Nat} (hj : j < n) (hn : n ≤ s.size) : (s.extract 0 n).data.toList[j]? = s.data.toList[j]? := by
  rw [ByteArray.data_extract]
  simp [List.getElem?_take, hj]
theorem fsT_no10 (r : ByteArray) (h : 0 < r.size) (he : (fsT r h).2.2 = 0) (n : Nat) (hn : (fsT r h).2.1 = (n : Int)) (j : Nat) (hj : j < n) : r.data.toList[j]? ≠ some 10 := by
  have hr := runN_le r.data.toList
  rw [bsize_list] at hr
  have hg : r.data.toList[0]? = some r[0] := by rw [get_list r 0 h, List.getElem?_eq_getElem]
  have hez := ext_size r (runN r.data.toList) hr
  unfold fsT at he hn
  split at he
  · rename_i hL
    rw [if_pos hL] at hn
    unfold nmT at he hn
    split at he
    · cases he
    · rename_i h16
      rw [if_neg h16] at hn
      have : n = runN r.data.toList := by
        split at hn <;> (simp only [hez] at hn; omega)
      exact runN_no _ j (by omega)
  · rename_i hL
    rw [if_neg hL] at hn
    split at he
    · rename_i hD
      rw [if_pos hD] at hn
      unfold inT at he hn
      split at he
      · rename_i hw
        rw [if_pos hw] at hn
        simp only [hez] at hn
        exact runN_no _ j (by omega)
      · cases he
    · rename_i hD
      rw [if_neg hD] at hn
      split at he
      · rename_i hq
        rw [if_pos hq] at hn
        unfold txT at he hn
        split at he
        · rename_i hw
          rw [if_pos hw] at hn
          simp only at hn
          exact rq_no10 hw j (by omega)
        · cases he
      · rename_i hq
        rw [if_neg hq] at hn
        split at he
        · rename_i h59
          rw [if_pos h59] at hn
          simp only at hn
          obtain rfl : j = 0 := by omega
          rw [hg, h59]; decide
        · rename_i h59
          rw [if_neg h59] at hn
          unfold sgT at he hn
          split at he
          · cases he
          · rename_i hs
            rw [if_neg hs] at hn
            simp only at hn
            have hle := sgnN_le r h
            have hsb : sgnB (r.extract 0 (sgnN r)) = true := by
              unfold sgnN at hs ⊢
              split
              · rename_i h2; exact h2.2
              · rename_i h2
                rw [if_neg h2] at hs
                split
                · rename_i h1; exact h1
                · rename_i h1; rw [if_neg h1] at hs; exact absurd rfl hs
            have := sgn_no10 hsb j
            rw [ext_get0 (by omega) hle] at this
            exact this
theorem ext_ext {src : ByteArray} {p n : Nat} (h : p + n ≤ src.size) : (src.extract p src.size).extract 0 n = src.extract p (p + n) := by
  apply ByteArray.ext
  simp only [ByteArray.data_extract, Array.extract_extract]
  congr 1 <;> omega
theorem get_pos {src : ByteArray} {p : Nat} (h : p < src.size) : (src.extract p src.size)[0]'(rest_pos h) = src[p] ∧ src.data.toList[p]? = some src[p] := by
  have e1 : src.data.toList[p]? = some src[p] := by rw [get_list src p h, List.getElem?_eq_getElem]
  refine ⟨?_, e1⟩
  have e2 : (src.extract p src.size).data.toList[0]? = some ((src.extract p src.size)[0]'(rest_pos h)) := by rw [get_list _ 0 (rest_pos h), List.getElem?_eq_getElem]
  rw [ext_get (j := 0) (by omega), Nat.add_zero, e1] at e2
  exact (Option.some.inj e2).symm
theorem col_add {s : Sc} {n : Nat} (h : s.bg ≤ s.pos) (t : List Tk) : (Sc.col ⟨s.pos + n, s.line, s.bg, t⟩) = s.col + n := by unfold Sc.col; simp only; omega
/-- A step keeps that. -/
theorem step_in {src : ByteArray} {s s' : Sc} (hi : s.In src) (hp : s.pos < src.size) (h : s.stepR (src.extract s.pos src.size) (rest_pos hp) = .ok s') : s'.In src := by
  have hok := (step_ok hi.ok hp h).1
  refine ⟨hok, ?_, ?_⟩ <;> (
    have hb := hi.ok.bg
    have hrz : (src.extract s.pos src.size).size = src.size - s.pos := by rw [ByteArray.size_extract]; omega
    obtain ⟨g0, g1⟩ := get_pos hp
    unfold Sc.stepR at h
    split at h)
  · rename_i hn
    rw [g0] at hn
    rw [hn] at g1
    cases hc : s.closeR with
    | bad c ln cl => rw [hc] at h; cases h
    | ok s1 =>
      rw [hc] at h
      cases h
      show plc _ (s.pos + 1) = (s.line + 1, Sc.col ⟨s.pos + 1, s.line + 1, s.pos + 1, s1.ts⟩)
      rw [plc_nl g1, hi.plc]
      simp [Sc.col]
  · rename_i hn
    rw [g0] at hn
    split at h
    · rename_i hb2
      cases h
      show plc _ (s.pos + 1) = (s.line, Sc.col ⟨s.pos + 1, s.line, s.bg, s.ts⟩)
      rw [plc_on (by rw [g1]; simpa using hn), hi.plc, col_add hb]
    split at h
    · cases h
      show plc _ (s.pos + _) = (s.line, Sc.col ⟨s.pos + _, s.line, s.bg, s.ts⟩)
      have hle := lnN_le (src.extract s.pos src.size).data.toList
      rw [bsize_list, hrz] at hle
      rw [plc_many _ (fun j hj => by rw [← ext_get (by omega)]; exact lnN_no _ j hj), hi.plc, col_add hb]
    split at h
    · rename_i he
      obtain ⟨n, hn1, hn2, hn3⟩ := fsT_ok _ _ he
      rw [hrz] at hn3
      rw [hn1, Int.toNat_natCast] at h
      cases ha : s.addR (fsT (src.extract s.pos src.size) (rest_pos hp)).1 ((src.extract s.pos src.size).extract 0 n) with
      | bad c ln cl => rw [ha] at h; cases h
      | ok s1 =>
        rw [ha] at h
        cases h
        obtain ⟨e1, e2, e3⟩ := addR_same ha
        show plc _ (s.pos + n) = (s1.line, Sc.col ⟨s.pos + n, s1.line, s1.bg, s1.ts⟩)
        rw [e2, e3, plc_many _ (fun j hj => by rw [← ext_get (by omega)]; exact fsT_no10 _ _ he n hn1 j hj), hi.plc, col_add hb]
    · cases h
  · rename_i hn
    rw [g0] at hn
    rw [hn] at g1
    cases hc : s.closeR with
    | bad c ln cl => rw [hc] at h; cases h
    | ok s1 =>
      rw [hc] at h
      cases h
      have hch : Chain src s.pos 0 s1.ts := close_in hi hc (.inr g1)
      exact Chain.up (Nat.le_succ _) hch
  · split at h
    · cases h; exact Chain.up (Nat.le_succ _) hi.chain
    split at h
    · cases h; exact Chain.up (Nat.le_add_right _ _) hi.chain
    split at h
    · rename_i he
      obtain ⟨n, hn1, hn2, hn3⟩ := fsT_ok _ _ he
      rw [hrz] at hn3
      rw [hn1, Int.toNat_natCast] at h
      cases ha : s.addR (fsT (src.extract s.pos src.size) (rest_pos hp)).1 ((src.extract s.pos src.size).extract 0 n) with
      | bad c ln cl => rw [ha] at h; cases h
      | ok s1 =>
        rw [ha] at h
        cases h
        have hsz : ((src.extract s.pos src.size).extract 0 n).size = n := ext_size _ n (by omega)
        have htx : src.extract s.pos (s.pos + n) = (src.extract s.pos src.size).extract 0 n := (ext_ext (by omega)).symm
        generalize (src.extract s.pos src.size).extract 0 n = tx at *
        have hch : Chain src s.pos 0 s1.ts := add_in hi ha ⟨hi.plc, .inl ⟨by show s.pos + tx.size ≤ _; omega, by show src.extract s.pos (s.pos + tx.size) = tx; rw [hsz]; exact htx⟩⟩
        exact Chain.up (Nat.le_add_right _ _) hch
    · cases h
theorem run_in {src : ByteArray} {s' : Sc} : ∀ (f : Nat) (s : Sc), s.In src → src.size < f + s.pos → runR src f s = .ok s' → Chain src src.size 0 s'.ts
  | 0, s, hi, hf, _ => by have := hi.ok.pos; omega
  | f + 1, s, hi, hf, h => by
    rw [runR] at h
    split at h
    · rename_i hp
      cases hs : s.stepR (src.extract s.pos src.size) (rest_pos hp) with
      | bad c ln cl => rw [hs] at h; cases h
      | ok s1 =>
        rw [hs] at h
        have h1 := step_ok hi.ok hp hs
        exact run_in f s1 (step_in hi hp hs) (by omega) h
    · rename_i hp
      have hpos := hi.ok.pos
      exact Chain.up hpos (close_in hi h (.inl (by omega)))
/-- The tokens of a source that has some stand where they are told to stand. -/
theorem tok_places {src : ByteArray} {s : Sc} (h : tokR src = .ok s) : Chain src src.size 0 s.ts := by
  unfold tokR at h
  split at h
  · cases h
  · exact run_in _ sc0 ⟨sc0_ok (by omega), rfl, Nat.le_refl _⟩ (by simp [sc0]) h
end Go.Proofs.YtljdfaoplenloaaDoor
