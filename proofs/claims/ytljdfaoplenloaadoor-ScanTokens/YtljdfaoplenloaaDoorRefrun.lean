/- The reference's run over a source: plain laws. -/
import Derived.Test.YtljdfaoplenloaaDoorRefadd
namespace Go.Proofs.YtljdfaoplenloaaDoor
open Go.ChangeShapes Go.WideShapes Go.ChangeAt Go.RowKit
set_option maxRecDepth 100000
set_option linter.unusedSimpArgs false
set_option linter.unusedVariables false

theorem slice_pq (s : ByteArray) (p n : Nat) (h2 : p + n ≤ s.size) (W : World) : (Instr.slice 9 (.string s) (some (.int .i64 (p : Int))) (some (.int .i64 ((p : Int) + (n : Int)))) none).run Tryd.prog W = .ok (.string (s.extract p (p + n))) W := by
  rw [run_slice_string W 9 s .i64 .i64 p (p + n) Tryd.underlying9 (by omega) (by omega) (by omega)]
  congr 3
theorem okT_first {r : ByteArray} {h : 0 < r.size} (he : (fsT r h).2.2 = 0) : OkT (fsT r h).1 (r.extract 0 (fsT r h).2.1.toNat) := by
  have hself : ∀ k, k ≤ r.size → r.extract 0 ((r.extract 0 k).size : Int).toNat = r.extract 0 k := fun k hk => by rw [ext_size r k hk]; rfl
  have hr := runN_le r.data.toList
  rw [bsize_list] at hr
  unfold fsT at he ⊢
  split
  · rename_i hl
    rw [if_pos hl] at he
    unfold nmT at he ⊢
    split
    · rename_i h16; rw [if_pos h16] at he; cases he
    · split
      · rename_i hw
        refine ⟨fun e => by simp at e, fun _ => ?_⟩
        simp only
        rw [hself _ hr]; exact hw
      · exact ⟨fun e => by simp at e, fun e => by simp at e⟩
  · rename_i hl
    rw [if_neg hl] at he
    split
    · rename_i hd
      rw [if_pos hd] at he
      unfold inT at he ⊢
      split
      · exact ⟨fun e => by simp at e, fun e => by simp at e⟩
      · exact ⟨fun e => by simp at e, fun e => by simp at e⟩
    · rename_i hd
      rw [if_neg hd] at he
      split
      · unfold txT
        split
        · exact ⟨fun e => by simp at e, fun e => by simp at e⟩
        · exact ⟨fun e => by simp at e, fun e => by simp at e⟩
      · rename_i hq
        rw [if_neg hq] at he
        split
        · exact ⟨fun e => by simp at e, fun e => by simp at e⟩
        · rename_i h5
          rw [if_neg h5] at he
          unfold sgT at he ⊢
          split
          · rename_i h0; rw [if_pos h0] at he; cases he
          · rename_i h0
            refine ⟨fun _ => ?_, fun e => by simp at e⟩
            simp only
            rw [show ((sgnN r : Int)).toNat = sgnN r from rfl]
            unfold sgnN at h0 ⊢
            split
            · rename_i h2; exact h2.2
            · rename_i h2
              rw [if_neg h2] at h0
              split
              · rename_i h1; exact h1
              · rename_i h1; rw [if_neg h1] at h0; exact absurd rfl h0
/-- How a line's end comes out. -/
theorem close_ways (s : Sc) (hl : s.ts.length ≤ 2000) : (s.ts = [] ∧ s.closeR = .ok s) ∨ ∃ l t, s.ts = l ++ [t] ∧ ((mayT t.kind t.text = false ∧ s.closeR = .ok s) ∨
    (mayT t.kind t.text = true ∧ s.ts.length < 2000 ∧ s.closeR = .ok (s.put 6 ⟨#[59]⟩)) ∨ (mayT t.kind t.text = true ∧ s.ts.length = 2000 ∧ s.closeR = .bad 15 s.line s.col)) := by
  rcases List.eq_nil_or_concat s.ts with h0 | ⟨l, t, h1⟩
  · left; exact ⟨h0, by unfold Sc.closeR; rw [h0]; rfl⟩
  · right
    rw [List.concat_eq_append] at h1
    refine ⟨l, t, h1, ?_⟩
    have hr : s.closeR = if mayT t.kind t.text then s.addR 6 ⟨#[59]⟩ else .ok s := by unfold Sc.closeR; rw [h1]; simp
    rw [hr]
    cases hm : mayT t.kind t.text with
    | false => left; exact ⟨rfl, by rw [if_neg (by decide)]⟩
    | true =>
      right
      rw [if_pos rfl]
      unfold Sc.addR
      by_cases hf : s.ts.length = 2000
      · right; exact ⟨rfl, hf, by rw [if_pos hf]⟩
      · left; exact ⟨rfl, by omega, by rw [if_neg hf]⟩
def AllOk (ts : List Tk) : Prop := ∀ t ∈ ts, OkT t.kind t.text
theorem AllOk.snoc {ts : List Tk} {t : Tk} (h : AllOk ts) (ht : OkT t.kind t.text) : AllOk (ts ++ [t]) := fun u hu => by
  rcases List.mem_append.1 hu with h1 | h1
  · exact h u h1
  · simp at h1; subst h1; exact ht
theorem okT_semi (t : ByteArray) : OkT 6 t := ⟨fun e => by simp at e, fun e => by simp at e⟩
/-- On its way: at the place p, or behind the end. -/
def RRel (w : World) (src : ByteArray) (p : Nat) (wr : World) : Prop := Below w.heap.size w wr ∧ ∃ (ts : List Tk) (ao : Option Addr) (cv : Nat), RT w.heap.size src ts wr ao cv ∧
  ((∃ (s : Sc) (f : Nat), s.pos = p ∧ s.ts = ts ∧ s.In src ∧ AllOk s.ts ∧ src.size < f + s.pos ∧ runR src f s = tokR src) ∨ (p = src.size + 1 ∧ ∃ s, tokR src = .ok s ∧ s.ts = ts))
theorem told_spot {w w' : World} {r : Res} {c : Int} {ln cl : Nat} (h : r = .bad c ln cl) (hb : Below w.heap.size w w') : Told w r (.returned (.tuple #[.slice none 0 0, .agg #[.int .i64 c, .int .i64 ln, .int .i64 cl]])) w' := by
  rw [h]; exact ⟨hb, rfl⟩
end Go.Proofs.YtljdfaoplenloaaDoor
