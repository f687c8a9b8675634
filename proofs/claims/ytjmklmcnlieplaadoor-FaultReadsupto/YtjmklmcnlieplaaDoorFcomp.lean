/- What an error tells is read again: the plain side. -/
import Derived.Test.YtjmklmcnlieplaaDoorFread
namespace Go.Proofs.YtjmklmcnlieplaaDoor
open Go.ChangeShapes Go.WideShapes Go.ChangeAt Go.RowKit
set_option maxRecDepth 100000
set_option linter.unusedSimpArgs false
set_option linter.unusedVariables false
def isD (c : UInt8) : Bool := dgs.data.toList.contains c
theorem isD_digit {c : UInt8} (h0 : 48 ≤ c.toNat) (h1 : c.toNat ≤ 57) : isD c = true := by
  have e : c = UInt8.ofNat c.toNat := by simp
  have : c.toNat = 48 ∨ c.toNat = 49 ∨ c.toNat = 50 ∨ c.toNat = 51 ∨ c.toNat = 52 ∨ c.toNat = 53 ∨ c.toNat = 54 ∨ c.toNat = 55 ∨ c.toNat = 56 ∨ c.toNat = 57 := by omega
  rcases this with h | h | h | h | h | h | h | h | h | h <;> (rw [h] at e; rw [e]; rfl)
theorem dec_all (u : Nat) : ∀ c ∈ Lib.decDigits u, isD c = true := by
  induction u using Nat.strongRecOn with
  | _ u ih =>
    intro c hc
    rw [Lib.decDigits] at hc
    split at hc
    · rename_i h1
      have hc := List.mem_singleton.1 hc
      subst hc
      exact isD_digit (by rw [digit_byte u h1]; omega) (by rw [digit_byte u h1]; omega)
    · rename_i h1
      rcases List.mem_append.1 hc with h | h
      · exact ih (u / 10) (by omega) c h
      · have h := List.mem_singleton.1 h
        subst h
        have := digit_byte (u % 10) (by omega)
        exact isD_digit (by rw [this]; omega) (by rw [this]; omega)
theorem itoa_all (n : Int) : ∀ c ∈ Lib.itoa n, isD c = true := by
  unfold Lib.itoa
  split
  · intro c hc
    rcases List.mem_cons.1 hc with rfl | h
    · rfl
    · exact dec_all _ c h
  · exact dec_all _
theorem itoa_ne (n : Int) : Lib.itoa n ≠ [] := by
  unfold Lib.itoa
  split
  · simp
  · exact dec_ne _
theorem drop_app {q : UInt8 → Bool} : ∀ {l r : List UInt8}, (∀ c ∈ l, q c = true) → (∀ c t, r = c :: t → q c = false) → (l ++ r).dropWhile q = r
  | [], [], _, _ => rfl
  | [], c :: t, _, h => by rw [List.nil_append, List.dropWhile_cons, if_neg (by simp [h c t rfl])]
  | a :: l, r, h, h2 => by rw [List.cons_append, List.dropWhile_cons, if_pos (h a (by simp))]; exact drop_app (fun c hc => h c (by simp [hc])) h2
/-- A text of bytes. -/
def bt (l : List UInt8) : ByteArray := ⟨l.toArray⟩
theorem bt_list (l : List UInt8) : (bt l).data.toList = l := rfl
theorem bt_size (l : List UInt8) : (bt l).size = l.length := by show l.toArray.size = _; simp
theorem bt_eta (b : ByteArray) : bt b.data.toList = b := by cases b; rfl
theorem bt_inj {a b : List UInt8} (h : bt a = bt b) : a = b := by have := congrArg (fun x => x.data.toList) h; exact this
theorem bt_nil : ((bt []).toList == ([] : List UInt8)) = true := by rw [ByteArray.toList_eq]; rfl
def noD (r : List UInt8) : Prop := ∀ c t, r = c :: t → isD c = false
theorem rest_num (n : Int) (r : List UInt8) (h : noD r) : restB (bt (Lib.itoa n ++ r)) = bt r := by
  show bt ((Lib.itoa n ++ r).dropWhile (dgs.data.toList.contains ·)) = bt r
  exact congrArg bt (drop_app (q := isD) (itoa_all n) h)
theorem digs_num (n : Int) (r : List UInt8) (h : noD r) : digsB (bt (Lib.itoa n ++ r)) = txt n := by
  unfold digsB
  rw [rest_num n r h, bt_size, bt_size, List.length_append, Nat.add_sub_cancel]
  apply ByteArray.ext; apply Array.ext'
  rw [Lib.extract_data]
  show List.take _ (List.drop 0 (Lib.itoa n ++ r)) = Lib.itoa n
  simp
theorem rest_nod (r : List UInt8) (h : noD r) : restB (bt r) = bt r := by
  show bt (r.dropWhile (dgs.data.toList.contains ·)) = bt r
  have := drop_app (q := isD) (l := []) (r := r) (by simp) h
  rw [List.nil_append] at this
  exact congrArg bt this
theorem digs_nod (r : List UInt8) (h : noD r) : digsB (bt r) = bt [] := by
  unfold digsB
  rw [rest_nod r h, Nat.sub_self]
  apply ByteArray.ext; apply Array.ext'
  rw [Lib.extract_data]
  simp [bt]
theorem hasp_app (p r : List UInt8) : haspB (bt (p ++ r)) (bt p) = true := by
  show p.isPrefixOf (p ++ r) = true
  simp
theorem cutp_app (p r : List UInt8) : cutpB (bt (p ++ r)) (bt p) = bt r := by
  have h : Lib.hasPrefix (p ++ r) p = true := by show p.isPrefixOf (p ++ r) = true; simp
  show bt (Lib.trimPrefix (p ++ r) p) = bt r
  unfold Lib.trimPrefix
  rw [if_pos h, List.drop_left]
/-- One piece. -/
theorem m1_zero (p r : List UInt8) (n : Int × Int) : M1 0 (bt p) (bt (p ++ r), n) = some (bt r, n) := by
  unfold M1
  rw [if_pos rfl, if_pos (hasp_app p r), cutp_app]
theorem m1_one (p r : List UInt8) (n n0 n1 : Int) (hn : I64 n) (h : noD (p ++ r)) : M1 1 (bt p) (bt (Lib.itoa n ++ (p ++ r)), n0, n1) = some (bt r, n, n1) := by
  obtain ⟨e1, e2⟩ := rd_txt n hn.1 hn.2
  unfold M1
  rw [if_neg (by decide), digs_num n _ h, if_pos e2, rest_num n _ h, if_pos (hasp_app p r), cutp_app, e1, if_pos rfl]
theorem m1_two (p r : List UInt8) (n n0 n1 : Int) (hn : I64 n) (h : noD (p ++ r)) : M1 2 (bt p) (bt (Lib.itoa n ++ (p ++ r)), n0, n1) = some (bt r, n0, n) := by
  obtain ⟨e1, e2⟩ := rd_txt n hn.1 hn.2
  unfold M1
  rw [if_neg (by decide), digs_num n _ h, if_pos e2, rest_num n _ h, if_pos (hasp_app p r), cutp_app, e1, if_neg (by decide)]
theorem nod_nil : noD [] := fun c t h => by cases h
theorem nod_cons {c : UInt8} {r : List UInt8} (h : isD c = false) : noD (c :: r) := fun d t e => by cases e; exact h
/-- Forms of one, two and three pieces. -/
theorem match1 (p : List UInt8) : matchF [bt p] (bt p) = some (0, 0) := by
  have h := m1_zero p [] (0, 0)
  rw [List.append_nil] at h
  unfold matchF
  rw [show ([bt p] : List ByteArray).length = 0 + 1 from rfl, MM_succ (s := (bt p, 0, 0)) (p := bt p) rfl rfl, h]
  dsimp only; rw [if_pos bt_nil]
theorem match2 (p q : List UInt8) (a : Int) (ha : I64 a) (hq : noD (q ++ [])) : matchF [bt p, bt q] (bt (p ++ (Lib.itoa a ++ (q ++ [])))) = some (a, 0) := by
  have h0 := m1_zero p (Lib.itoa a ++ (q ++ [])) (0, 0)
  have h1 := m1_one q [] a 0 0 ha hq
  unfold matchF
  have e1 : MM [bt p, bt q] (bt (p ++ (Lib.itoa a ++ (q ++ [])))) 1 = some (bt (Lib.itoa a ++ (q ++ [])), 0, 0) := (MM_succ (k := 0) rfl rfl).trans h0
  rw [show ([bt p, bt q] : List ByteArray).length = 1 + 1 from rfl, MM_succ e1 (p := bt q) rfl, h1]
  dsimp only; rw [if_pos bt_nil]
theorem match3 (p q r : List UInt8) (a b : Int) (ha : I64 a) (hb : I64 b) (hq : noD (q ++ (Lib.itoa b ++ (r ++ [])))) (hr : noD (r ++ [])) : matchF [bt p, bt q, bt r] (bt (p ++ (Lib.itoa a ++ (q ++ (Lib.itoa b ++ (r ++ [])))))) = some (a, b) := by
  have h0 := m1_zero p (Lib.itoa a ++ (q ++ (Lib.itoa b ++ (r ++ [])))) (0, 0)
  have h1 := m1_one q (Lib.itoa b ++ (r ++ [])) a 0 0 ha hq
  have h2 := m1_two r [] b a 0 hb hr
  unfold matchF
  have e1 : MM [bt p, bt q, bt r] (bt (p ++ (Lib.itoa a ++ (q ++ (Lib.itoa b ++ (r ++ [])))))) 1 = _ := (MM_succ (k := 0) rfl rfl).trans h0
  have e2 : MM [bt p, bt q, bt r] (bt (p ++ (Lib.itoa a ++ (q ++ (Lib.itoa b ++ (r ++ [])))))) 2 = _ := (MM_succ (k := 1) (p := bt q) e1 rfl).trans h1
  rw [show ([bt p, bt q, bt r] : List ByteArray).length = 2 + 1 from rfl, MM_succ e2 (p := bt r) rfl, h2]
  dsimp only; rw [if_pos bt_nil]
end Go.Proofs.YtjmklmcnlieplaaDoor
