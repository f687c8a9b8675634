/- Events played whole and one by one come to the same. -/
import Derived.Test.YtcnpoldcebdhjaaPplay
import Derived.Test.YtcnpoldcebdhjaaQe1b
namespace Go.Proofs.Ytcnpoldcebdhjaa
open Go.ChangeShapes Go.WideShapes Go.ChangeAt Go.RowKit
set_option linter.unusedSimpArgs false
set_option linter.unusedVariables false
theorem evs_same {es' es : List Eo} (h : es'.map (·.x) = (es.take 400).map (fun e => evOf e.x)) : es'.map (fun e => evOf e.x) = es'.map (·.x) := by
  have h1 : es'.map (fun e => evOf e.x) = (es'.map (·.x)).map evOf := by rw [List.map_map]; rfl
  rw [h1, h, List.map_map]
  refine List.map_congr_left fun e _ => ?_
  exact evOf_same _
theorem Played.run {w : World} {S Al : Value} {l : List Ev} {ss : List So} {ts : List To} {s : So} (h : Played w S Al l ss ts) (hs : ss[ts.length]? = some s) : runE bSt [] l = (s.st, ts.flatMap (·.td)) := by
  have h1 : (bSt :: (trace bSt l).map (·.1)).getLast? = some s.st := by
    rw [← h.st, List.getLast?_eq_getElem?, List.length_map, h.len, Nat.add_sub_cancel, List.getElem?_map, hs]
    rfl
  rw [List.getLast?_eq_some_getLast (by simp)] at h1
  rw [runE_trace, Option.some.inj h1, List.nil_append]
  have h2 : ts.flatMap (·.td) = (trace bSt l).flatMap (·.2) := by
    rw [List.flatMap_def, List.flatMap_def, h.td]
  rw [h2]
theorem flat_at {ts : List To} {i j : Nat} {t : To} {x : Tl} (ht : ts[i]? = some t) (hx : t.td[j]? = some x) : (ts.flatMap (·.td))[((ts.take i).flatMap (·.td)).length + j]? = some x := by
  have hi := (List.getElem?_eq_some_iff.1 ht).1
  have e : ts = ts.take i ++ t :: ts.drop (i + 1) := by
    rw [← (List.getElem?_eq_some_iff.1 ht).2, ← List.drop_eq_getElem_cons hi, List.take_append_drop]
  have e2 : ts.flatMap (·.td) = (ts.take i).flatMap (·.td) ++ (t.td ++ (ts.drop (i + 1)).flatMap (·.td)) := by
    conv => lhs; rw [e]
    rw [List.flatMap_append, List.flatMap_cons]
  rw [e2, List.getElem?_append_right (by omega), Nat.add_sub_cancel_left, List.getElem?_append_left (List.getElem?_eq_some_iff.1 hx).1]
  exact hx
theorem flat_take {ts : List To} {i : Nat} {t : To} (ht : ts[i]? = some t) : ((ts.take (i + 1)).flatMap (·.td)).length = ((ts.take i).flatMap (·.td)).length + t.td.length := by
  rw [List.take_add_one, ht, List.flatMap_append, List.length_append]
  simp
theorem runE_phi : ∀ (l : List Ev) (st : St) (td : List Tl), (runE st td l).2.length + 2 * (runE st td l).1.fr.length ≤ td.length + 2 * st.fr.length + 3 * l.length
  | [], st, td => by simp [runE]
  | e :: r, st, td => by
    unfold runE
    split
    · have h1 := runE_phi r (st.step td e).1 (st.step td e).2
      have h2 := step_phi st td e
      simp only [List.length_cons]
      omega
    · simp only [List.length_cons]; omega
theorem Played.tells {w : World} {S Al : Value} {l : List Ev} {ss : List So} {ts : List To} {s : So} (h : Played w S Al l ss ts) (hs : ss[ts.length]? = some s) : (ts.flatMap (·.td)).length ≤ 2000 := by
  have h1 := runE_phi l bSt []
  rw [h.run hs] at h1
  have h2 := h.len4
  simp [bSt] at h1
  have e : (ts.flatMap (·.td)).length = (List.map (List.length ∘ fun x => x.td) ts).sum := by simp [List.length_flatMap, Function.comp_def]
  first | omega | (rw [e]; simp [Function.comp_def] at *; omega)
end Go.Proofs.Ytcnpoldcebdhjaa
