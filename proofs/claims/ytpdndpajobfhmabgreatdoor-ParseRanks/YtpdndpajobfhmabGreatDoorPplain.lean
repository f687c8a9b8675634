/- The parser, plain; what is not told yet is 'na'. -/
import Derived.Test.YtpdndpajobfhmabGreatDoorPrs2
import Derived.Test.YtpdndpajobfhmabGreatDoorTight
namespace Go.Proofs.YtpdndpajobfhmabGreatDoor
set_option linter.unusedSimpArgs false
set_option linter.unusedVariables false

/-- How a step comes out: not told, given up, or done with numbers and a state. -/
inductive Out where
  | na
  | bad
  | ok (r : List Nat) (st : Ps)
def Out.bind (o : Out) (f : List Nat → Ps → Out) : Out := match o with | .na => .na | .bad => .bad | .ok r st => f r st
def bs (l : List UInt8) : ByteArray := ⟨l.toArray⟩
/-- What the parser is asked. -/
inductive Rq where
  | expr
  | ops (least : Nat)
  | opsLoop (least left : Nat)
  | operand
  | part
  | partLoop (node last : Nat)
  | firstPart
  | list (closing : ByteArray)
  | head (kind : Nat) (text : ByteArray)
  | result
  | block
  | blockLoop (kids : List Nat)
  | stmt
  | plain
  | function
  | file
  | fileLoop (kids : List Nat)
def startsB (s : ByteArray) (l : List (List UInt8)) : Bool := l.any fun x => s.toList == x
def run (toks : List Tk) : Nat → Rq → Ps → Out
  | 0, _, _ => .na
  | n + 1, .expr, st => run toks n (.ops 1) st
  | n + 1, .ops least, st => (run toks n .operand st).bind fun r st => match r with | [left] => run toks n (.opsLoop least left) st | _ => .na
  | n + 1, .opsLoop least left, st =>
    if tightN (pkT toks st.pos) < least then .ok [left] st else if tightN (pkT toks st.pos) = 0 then .na
    else (run toks n (.ops (tightN (pkT toks st.pos) + 1)) st.next).bind fun r st2 => match r with
      | [right] => run toks n (.opsLoop least st2.tree.length) (st2.lay ⟨27, pkT toks st.pos, ⟨#[]⟩, 0, [left, right]⟩)
      | _ => .na
  | n + 1, .operand, st =>
    if startsB (pkT toks st.pos) [[45], [33], [42], [38]] then .na
    else (run toks n .part st).bind fun r st => match r with | [node, _] => .ok [node] st | _ => .na
  | n + 1, .part, st => (run toks n .firstPart st).bind fun r st => match r with | [node, last] => run toks n (.partLoop node last) st | _ => .na
  | n + 1, .partLoop node last, st =>
    if isP toks st ⟨#[40]⟩ then .na else if isP toks st ⟨#[91]⟩ then .na else .ok [node, last] st
  | n + 1, .firstPart, st =>
    if isP toks st ⟨#[40]⟩ then .na else if isP toks st ⟨#[102, 117, 110, 99]⟩ then .na else if isP toks st ⟨#[91]⟩ then .na
    else if pkK toks st.pos = 1 then .ok [st.tree.length, 25] (st.next.lay ⟨25, pkT toks st.pos, ⟨#[]⟩, 0, []⟩)
    else .na
  | n + 1, .list closing, st => if closing.size = 0 then .na else if isP toks st closing then .ok [] st.next else .na
  | n + 1, .head kind text, st =>
    if isP toks st ⟨#[40]⟩ = false then .bad
    else (run toks n (.list ⟨#[41]⟩) st.next).bind fun ks st2 => if 4 < ks.length then .bad
      else (run toks n .result st2).bind fun r1 st3 => (run toks n .block st3).bind fun r2 st4 => match r1, r2 with
        | [a], [b] => .ok [st4.tree.length] (st4.lay ⟨kind, text, ⟨#[]⟩, ks.length, ks ++ [a] ++ [b]⟩)
        | _, _ => .na
  | n + 1, .result, st => if isP toks st ⟨#[40]⟩ then .na else if isP toks st ⟨#[123]⟩ then .ok [st.tree.length] (st.lay ⟨4, ⟨#[]⟩, ⟨#[]⟩, 0, []⟩) else .na
  | n + 1, .block, st => if isP toks st ⟨#[123]⟩ = false then .bad else run toks n (.blockLoop []) st.next
  | n + 1, .blockLoop kids, st =>
    if isP toks st ⟨#[125]⟩ then .ok [st.tree.length] (st.next.lay ⟨5, ⟨#[]⟩, ⟨#[]⟩, 0, kids⟩)
    else if isP toks st ⟨#[59]⟩ then run toks n (.blockLoop kids) st.next
    else (run toks n .stmt st).bind fun r st2 => match r with
      | [k] => if isP toks st2 ⟨#[125]⟩ then run toks n (.blockLoop (kids ++ [k])) st2 else if isP toks st2 ⟨#[59]⟩ then run toks n (.blockLoop (kids ++ [k])) st2.next else .bad
      | _ => .na
  | n + 1, .stmt, st =>
    if startsB (pkT toks st.pos) [[123], [105, 102], [102, 111, 114], [114, 101, 116, 117, 114, 110], [118, 97, 114], [98, 114, 101, 97, 107], [99, 111, 110, 116, 105, 110, 117, 101], [100, 101, 102, 101, 114]] then .na
    else run toks n .plain st
  | n + 1, .plain, st =>
    if pkK toks st.pos = 1 ∧ ((pkT toks (st.pos + 1)).toList == [58, 61]) = true then
      (run toks n .expr st.next.next).bind fun r st2 => match r with
        | [k] => .ok [st2.tree.length] (st2.lay ⟨7, pkT toks st.pos, ⟨#[]⟩, 0, [k]⟩)
        | _ => .na
    else .na
  | n + 1, .function, st =>
    if isP toks st ⟨#[102, 117, 110, 99]⟩ = false then .bad
    else if pkK toks (st.pos + 1) = 1 then run toks n (.head 2 (pkT toks (st.pos + 1))) st.next.next else .bad
  | n + 1, .file, st => run toks n (.fileLoop []) st
  | n + 1, .fileLoop kids, st =>
    if st.pos < toks.length then
      if isP toks st ⟨#[102, 117, 110, 99]⟩ then
        (run toks n .function st).bind fun r st2 => match r with
          | [k] => if st2.pos < toks.length then (if isP toks st2 ⟨#[59]⟩ then run toks n (.fileLoop (kids ++ [k])) st2.next else .bad) else run toks n (.fileLoop (kids ++ [k])) st2
          | _ => .na
      else if isP toks st ⟨#[59]⟩ then run toks n (.fileLoop kids) st.next else .bad
    else .ok [] (st.lay ⟨1, ⟨#[]⟩, ⟨#[]⟩, 0, kids⟩)
/-- What holds of each step: it goes on, and lays not too much. -/
theorem isP_lt {toks : List Tk} {st : Ps} {s : ByteArray} (h : isP toks st s = true) (hs : s.size ≠ 0) : st.pos < toks.length := by
  rcases Nat.lt_or_ge st.pos toks.length with hl | hl
  · exact hl
  · exfalso
    have : toks[st.pos]? = none := List.getElem?_eq_none hl
    unfold isP pkT at h
    rw [this] at h
    have e : s.toList = [] := by simpa using h
    have := congrArg List.length e
    rw [ByteArray.toList_eq, bsize_list] at this
    exact hs this
theorem pkK_lt {toks : List Tk} {k : Nat} (h : pkK toks k = 1) : k < toks.length := by
  rcases Nat.lt_or_ge k toks.length with hl | hl
  · exact hl
  · have : toks[k]? = none := List.getElem?_eq_none hl
    unfold pkK at h; rw [this] at h; cases h
theorem bind_ok {o : Out} {f : List Nat → Ps → Out} {r : List Nat} {st : Ps} (h : o.bind f = .ok r st) : ∃ r1 st1, o = .ok r1 st1 ∧ f r1 st1 = .ok r st := by
  cases o with
  | na => cases h
  | bad => cases h
  | ok r1 st1 => exact ⟨r1, st1, rfl, h⟩
theorem tight_lt {toks : List Tk} {k : Nat} (h : tightN (pkT toks k) ≠ 0) : k < toks.length := by
  rcases Nat.lt_or_ge k toks.length with hl | hl
  · exact hl
  · exfalso
    have : toks[k]? = none := List.getElem?_eq_none hl
    unfold pkT at h
    rw [this] at h
    exact h (by decide +kernel)
def cst : Rq → Nat
  | .result => 1
  | .file => 1
  | .fileLoop _ => 1
  | _ => 0
@[simp] theorem next_pos (st : Ps) : st.next.pos = st.pos + 1 := rfl
@[simp] theorem next_tree (st : Ps) : st.next.tree = st.tree := rfl
@[simp] theorem lay_pos (st : Ps) (n : Nd) : (st.lay n).pos = st.pos := rfl
@[simp] theorem lay_len (st : Ps) (n : Nd) : (st.lay n).tree.length = st.tree.length + 1 := by simp [Ps.lay]
theorem run_inv (toks : List Tk) : ∀ (n : Nat) (rq : Rq) (st : Ps) (r : List Nat) (st' : Ps), run toks n rq st = .ok r st' → st.pos ≤ toks.length →
    st.pos ≤ st'.pos ∧ st'.pos ≤ toks.length ∧ st'.tree.length ≤ st.tree.length + 4 * (st'.pos - st.pos) + cst rq := by
  intro n
  induction n with
  | zero => intro rq st r st' h; cases h
  | succ n ih =>
    intro rq st r st' h hp
    cases rq with
    | expr => exact ih (.ops 1) st r st' h hp
    | ops least =>
      obtain ⟨r1, s1, h1, h2⟩ := bind_ok h
      obtain ⟨a1, a2, a3⟩ := ih _ _ _ _ h1 hp
      split at h2
      · obtain ⟨b1, b2, b3⟩ := ih _ _ _ _ h2 a2
        simp only [cst] at *; omega
      · cases h2
    | opsLoop least left =>
      simp only [run] at h
      split at h
      · cases h; simp only [cst]; omega
      · split at h
        · cases h
        · rename_i hz
          have hl := tight_lt hz
          obtain ⟨r1, s1, h1, h2⟩ := bind_ok h
          obtain ⟨a1, a2, a3⟩ := ih _ _ _ _ h1 (by simp; omega)
          split at h2
          · obtain ⟨b1, b2, b3⟩ := ih _ _ _ _ h2 (by simpa using a2)
            simp only [cst, next_pos, next_tree, lay_pos, lay_len] at *; omega
          · cases h2
    | operand =>
      simp only [run] at h
      split at h
      · cases h
      · obtain ⟨r1, s1, h1, h2⟩ := bind_ok h
        obtain ⟨a1, a2, a3⟩ := ih _ _ _ _ h1 hp
        split at h2
        · cases h2; simp only [cst] at *; omega
        · cases h2
    | part =>
      obtain ⟨r1, s1, h1, h2⟩ := bind_ok h
      obtain ⟨a1, a2, a3⟩ := ih _ _ _ _ h1 hp
      split at h2
      · obtain ⟨b1, b2, b3⟩ := ih _ _ _ _ h2 a2
        simp only [cst] at *; omega
      · cases h2
    | partLoop node last =>
      simp only [run] at h
      split at h
      · cases h
      · split at h
        · cases h
        · cases h; simp only [cst]; omega
    | firstPart =>
      simp only [run] at h
      split at h
      · cases h
      · split at h
        · cases h
        · split at h
          · cases h
          · split at h
            · rename_i hk
              have := pkK_lt hk
              cases h
              simp only [cst, next_pos, next_tree, lay_pos, lay_len]; omega
            · cases h
    | list closing =>
      simp only [run] at h
      split at h
      · cases h
      · split at h
        · rename_i hz hi
          have hl := isP_lt hi hz
          cases h
          simp only [cst, next_pos, next_tree]; omega
        · cases h
    | head kind text =>
      simp only [run] at h
      split at h
      · cases h
      · rename_i hi
        have hl := isP_lt (by simpa using hi) (by decide)
        obtain ⟨r1, s1, h1, h2⟩ := bind_ok h
        obtain ⟨a1, a2, a3⟩ := ih _ _ _ _ h1 (by simp; omega)
        split at h2
        · cases h2
        · obtain ⟨r2, s2, h3, h4⟩ := bind_ok h2
          obtain ⟨b1, b2, b3⟩ := ih _ _ _ _ h3 a2
          obtain ⟨r3, s3, h5, h6⟩ := bind_ok h4
          obtain ⟨c1, c2, c3⟩ := ih _ _ _ _ h5 b2
          split at h6
          · cases h6
            simp only [cst, next_pos, next_tree, lay_pos, lay_len] at *; omega
          · cases h6
    | result =>
      simp only [run] at h
      split at h
      · cases h
      · split at h
        · cases h; simp only [cst, lay_pos, lay_len]; omega
        · cases h
    | block =>
      simp only [run] at h
      split at h
      · cases h
      · rename_i hi
        have hl := isP_lt (by simpa using hi) (by decide)
        obtain ⟨a1, a2, a3⟩ := ih _ _ _ _ h (by simp; omega)
        simp only [cst, next_pos, next_tree] at *; omega
    | blockLoop kids =>
      simp only [run] at h
      split at h
      · rename_i hi
        have hl := isP_lt hi (by decide)
        cases h; simp only [cst, next_pos, next_tree, lay_pos, lay_len]; omega
      · split at h
        · rename_i hi
          have hl := isP_lt hi (by decide)
          obtain ⟨a1, a2, a3⟩ := ih _ _ _ _ h (by simp; omega)
          simp only [cst, next_pos, next_tree] at *; omega
        · obtain ⟨r1, s1, h1, h2⟩ := bind_ok h
          obtain ⟨a1, a2, a3⟩ := ih _ _ _ _ h1 hp
          split at h2
          · split at h2
            · obtain ⟨b1, b2, b3⟩ := ih _ _ _ _ h2 a2
              simp only [cst] at *; omega
            · split at h2
              · rename_i hi
                have hl := isP_lt hi (by decide)
                obtain ⟨b1, b2, b3⟩ := ih _ _ _ _ h2 (by simp; omega)
                simp only [cst, next_pos, next_tree] at *; omega
              · cases h2
          · cases h2
    | stmt =>
      simp only [run] at h
      split at h
      · cases h
      · exact ih .plain st r st' h hp
    | plain =>
      simp only [run] at h
      split at h
      · rename_i hk
        have hl2 : st.pos + 1 < toks.length := by
          rcases Nat.lt_or_ge (st.pos + 1) toks.length with hl | hl
          · exact hl
          · exfalso
            have h0 : toks[st.pos + 1]? = none := List.getElem?_eq_none hl
            have := hk.2
            unfold pkT at this
            rw [h0] at this
            revert this
            decide +kernel
        obtain ⟨r1, s1, h1, h2⟩ := bind_ok h
        obtain ⟨a1, a2, a3⟩ := ih _ _ _ _ h1 (by simp; omega)
        split at h2
        · cases h2; simp only [cst, next_pos, next_tree, lay_pos, lay_len] at *; omega
        · cases h2
      · cases h
    | function =>
      simp only [run] at h
      split at h
      · cases h
      · split at h
        · rename_i hk
          have := pkK_lt hk
          obtain ⟨a1, a2, a3⟩ := ih _ _ _ _ h (by simp; omega)
          simp only [cst, next_pos, next_tree] at *; omega
        · cases h
    | file => exact ih (.fileLoop []) st r st' h hp
    | fileLoop kids =>
      simp only [run] at h
      split at h
      · split at h
        · obtain ⟨r1, s1, h1, h2⟩ := bind_ok h
          obtain ⟨a1, a2, a3⟩ := ih _ _ _ _ h1 hp
          split at h2
          · split at h2
            · split at h2
              · obtain ⟨b1, b2, b3⟩ := ih _ _ _ _ h2 (by simp; omega)
                simp only [cst, next_pos, next_tree] at *; omega
              · cases h2
            · obtain ⟨b1, b2, b3⟩ := ih _ _ _ _ h2 a2
              simp only [cst] at *; omega
          · cases h2
        · split at h
          · rename_i hlt _ _
            obtain ⟨a1, a2, a3⟩ := ih _ _ _ _ h (by simp; omega)
            simp only [cst, next_pos, next_tree] at *; omega
          · cases h
      · cases h; simp only [cst, lay_pos, lay_len]; omega
end Go.Proofs.YtpdndpajobfhmabGreatDoor
