/- Three names with two signs between them: what the parser lays. -/
import Derived.Test.YtpdndpajobfhmabGreatDoorPparse
namespace Go.Proofs.YtpdndpajobfhmabGreatDoor
set_option maxRecDepth 1000000

def sgA : List (List UInt8) := [[43], [45], [42], [47], [37], [60, 60], [62, 62], [38], [124], [94], [61, 61], [33, 61], [60], [60, 61], [62], [62, 61]]
def rkText (x y : List UInt8) : List UInt8 := [102, 117, 110, 99, 32, 109, 97, 105, 110, 40, 41, 32, 123, 32, 120, 32, 58, 61, 32, 97, 32] ++ x ++ [32, 98, 32] ++ y ++ [32, 99, 32, 125]
def rkRank (k : Nat) : Nat := if k = 1 ∨ k = 2 ∨ k = 9 ∨ k = 10 then 4 else if k = 3 ∨ k = 4 ∨ k = 5 ∨ k = 6 ∨ k = 7 ∨ k = 8 then 5 else 3
def ndIs (t : List Nd) (k : Nat) (s : List UInt8) : Bool := match t[k]? with | some n => (n.kind == 27) && (n.text.data.toList == s) | none => false
def rkOk (a b : Nat) : Bool :=
  match tokR ⟨(rkText (sgA.getD a []) (sgA.getD b [])).toArray⟩ with
  | .ok s => decide (s.ts.length ≤ 2000) && (decide ((mo s.ts s.ts.length).1 ≤ 40) && (match run s.ts 40 .file ⟨0, []⟩ with
    | .ok _ st => (st.tree.length == 10) && (if rkRank (b + 1) > rkRank (a + 1) then ndIs st.tree 5 (sgA.getD a []) && ndIs st.tree 4 (sgA.getD b []) else ndIs st.tree 5 (sgA.getD b []) && ndIs st.tree 3 (sgA.getD a []))
    | _ => false))
  | _ => false
end Go.Proofs.YtpdndpajobfhmabGreatDoor
