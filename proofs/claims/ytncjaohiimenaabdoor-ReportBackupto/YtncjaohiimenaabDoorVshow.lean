/- What is shown of a value. -/
import Derived.Test.YtncjaohiimenaabDoorConvt
import Derived.Test.YtncjaohiimenaabDoorVequal
import Derived.Lib.Join
import Derived.Laws.MakeOwn
namespace Go.Proofs.YtncjaohiimenaabDoor
open Go.ChangeShapes Go.WideShapes Go.ChangeAt Go.RowKit
set_option maxRecDepth 100000
set_option linter.unusedSimpArgs false
set_option linter.unusedVariables false

def joined (l : List Int) : ByteArray := ⟨(Lib.join (l.map Lib.itoa) [32]).toArray⟩
def showL (l : List Int) : ByteArray := (⟨#[91]⟩ : ByteArray) ++ joined l ++ ⟨#[93]⟩
def showB (n : Int) : ByteArray := if n = 0 then ⟨#[102, 97, 108, 115, 101]⟩ else ⟨#[116, 114, 117, 101]⟩
def showV (x : Vv) : ByteArray :=
  if x.kind = 1 then txt x.n else if x.kind = 2 then showB x.n else if x.kind = 3 ∨ x.kind = 5 then x.s else if x.kind = 4 then ⟨#[110, 105, 108]⟩
  else if x.kind = 6 then showL x.l else if x.kind = 7 then ⟨#[112, 111, 105, 110, 116, 101, 114]⟩ else if x.kind = 8 then ⟨#[102, 117, 110, 99]⟩ else ⟨#[]⟩
theorem own_showBool (n : Int) (w : World) : Calls Tryd.prog 28 #[.int .i64 n] w fun e w' => e = .returned (.string (showB n)) ∧ w' = w := by
  unfold showB
  by_cases h : n = 0
  · rw [if_pos h]
    go_enter Tryd.func28, Tryd.ntmps28
    go_wp2_with fail
    go_ret
    exact ⟨rfl, rfl⟩
  · rw [if_neg h]
    go_enter Tryd.func28, Tryd.ntmps28
    go_wp2_with fail
    go_ret
    exact ⟨rfl, rfl⟩
theorem Tryd.infoStrV : (Tryd.prog.info? 9).map (fun i => (i.zero, i.size, i.bytes)) = some (some (.string ⟨#[]⟩), 1, 16) := by kernel_rfl
/-- A row of texts that is being filled. -/
structure Fill (g n k : Nat) (l : List ByteArray) (u : World) : Prop where
  row : ∃ cs, u.heap[g]? = some (.cells cs 9 (0, 0)) ∧ cs.size = n ∧ (∀ j, j < n → ∃ s, cs[j]? = some (.string s)) ∧ ∀ j x, j < k → l[j]? = some x → cs[j]? = some (.string x)
theorem Fill.cell {g n k : Nat} {l : List ByteArray} {u : World} (h : Fill g n k l u) (j : Nat) (hj : j < n) : ∃ s, u.cell? ⟨g, j, none⟩ = some (.string s) ∧ u.frozen? ⟨g, j, none⟩ = false := by
  obtain ⟨cs, h1, h2, h3, h4⟩ := h.row
  obtain ⟨s, hs⟩ := h3 j hj
  exact ⟨s, by simp [World.cell?, h1, hs], by simp [World.frozen?, h1]⟩
theorem Fill.below {g n k : Nat} {l : List ByteArray} {u u' : World} (h : Fill g n k l u) (hb : Below u.heap.size u u') : Fill g n k l u' := by
  obtain ⟨cs, h1, h2⟩ := h.row
  exact ⟨cs, by rw [hb.block g (Array.getElem?_eq_some_iff.1 h1).1]; exact h1, h2⟩
theorem Fill.put {g n k : Nat} {l : List ByteArray} {u : World} (h : Fill g n k l u) {x : ByteArray} (hx : l[k]? = some x) (hk : k < n) : Fill g n (k + 1) l (u.setCell ⟨g, k, none⟩ (.string x)) := by
  obtain ⟨cs, h1, h2, h3, h4⟩ := h.row
  refine ⟨cs.setIfInBounds k (.string x), by simp [World.setCell, Array.getElem?_modify, h1], by simpa using h2, fun j hj => ?_, fun j y hj hy => ?_⟩
  · by_cases hjk : k = j
    · subst hjk; exact ⟨x, by rw [Array.getElem?_setIfInBounds_self_of_lt (by omega)]⟩
    · obtain ⟨s, hs⟩ := h3 j hj
      exact ⟨s, by rw [Array.getElem?_setIfInBounds_ne hjk]; exact hs⟩
  · by_cases hjk : k = j
    · subst hjk; rw [hx] at hy; cases hy; rw [Array.getElem?_setIfInBounds_self_of_lt (by omega)]
    · rw [Array.getElem?_setIfInBounds_ne hjk]; exact h4 j y (by omega) hy
theorem Fill.new (w : World) (n : Nat) (l : List ByteArray) : Fill w.heap.size n 0 l (w.alloc (.cells (madeCells #[.string ⟨#[]⟩] n) 9)) := by
  refine ⟨madeCells #[.string ⟨#[]⟩] n, ?_, size_madeCells _ _, fun j hj => ⟨⟨#[]⟩, ?_⟩, fun j x hj => by omega⟩
  · show (w.heap.push _)[w.heap.size]? = some _
    exact Array.getElem?_push_size
  · simp [madeCells, hj, Nat.mod_one]
theorem map_txt (l : List Int) : (l.map txt).map (·.data.toList) = l.map Lib.itoa := by
  rw [List.map_map]
  exact List.map_congr_left fun n _ => rfl
theorem join_len_le (sep : List UInt8) (c : Nat) : ∀ (xs : List (List UInt8)), (∀ x ∈ xs, x.length ≤ c) → (Lib.join xs sep).length ≤ (c + sep.length) * xs.length
  | [], _ => by simp [Lib.join]
  | x :: r, h => by
    rw [Lib.join_length]
    have hl : ∀ (l : List (List UInt8)), (∀ x ∈ l, x.length ≤ c) → Lib.lens l ≤ c * l.length := by
      intro l
      induction l with
      | nil => intro _; simp [Lib.lens]
      | cons y q ih =>
        intro hq
        have h1 := hq y (by simp)
        have h2 := ih (fun z hz => hq z (by simp [hz]))
        simp only [Lib.lens, List.length_cons, Nat.mul_add, Nat.mul_one] at *
        simp [Lib.lens] at *
        omega
    have := hl (x :: r) h
    simp only [List.length_cons, Nat.add_mul, Nat.mul_add, Nat.mul_one] at *
    omega
theorem joined_len (l : List Int) (h : ∀ i ∈ l, (Lit.int .i64 i).wf = true) : (Lib.join (l.map Lib.itoa) [32]).length ≤ 22 * l.length := by
  have := join_len_le [32] 21 (l.map Lib.itoa) (fun x hx => by
    obtain ⟨n, hn, rfl⟩ := List.mem_map.1 hx
    have hb := i64_bounds (h n hn)
    exact Lib.itoa_length_le n hb.1 hb.2)
  simpa using this
theorem join_any (g n : Nat) (l : List ByteArray) (u : World) (hn : l.length = n) (h : Fill g n n l u) (hN : n ≤ 140737488355328) (hlen : (Lib.join (l.map (·.data.toList)) [32]).length ≤ 140737488355328) :
    Calls Tryd.prog 38 #[.slice (some ⟨g, 0, none⟩) n n, .string ⟨#[32]⟩] u fun e w' => e = .returned (.string ⟨(Lib.join (l.map (·.data.toList)) [32]).toArray⟩) ∧ Below u.heap.size u w' := by
  subst hn
  by_cases h0 : l = []
  · subst h0
    refine (Tryd.strings_Join_none _ _ _ u).mono ?_
    rintro e w1 ⟨rfl, rfl⟩
    exact ⟨rfl, Below.refl _ _⟩
  · obtain ⟨cs, h1, h2, h3, h4⟩ := h.row
    refine (Tryd.strings_Join g 0 l.length l ⟨#[32]⟩ u (fun j x hx => ?_) (Array.getElem?_eq_some_iff.1 h1).1 hN (Nat.le_refl _) hlen).mono ?_
    · have hj := (List.getElem?_eq_some_iff.1 hx).1
      have := h4 j x hj hx
      simp [World.cell?, h1, this]
    · rintro e w1 ⟨rfl, hb⟩
      exact ⟨rfl, hb⟩
set_option maxHeartbeats 2000000 in
theorem own_showList (l : List Int) (L : Value) (w : World) (hm : ILies w L l) (hw : ∀ i ∈ l, (Lit.int .i64 i).wf = true) (hz : l.length ≤ 1099511627776) (hp : Pow w) :
    Calls Tryd.prog 29 #[L] w fun e w' => e = .returned (.string (showL l)) ∧ Below w.heap.size w w' := by
  obtain ⟨lo, lc, rfl⟩ := hm.shape
  obtain ⟨i0, hi, hz0, hz1, hz2⟩ := info_parts Tryd.infoStrV
  have HP : Hid (∀ u, Below w.heap.size w u → Pow u) := fun u hb => hp.below hb
  have HX : Hid (∀ k (h1 : k < l.length), ∃ b1 o1, lo = some ⟨b1, o1, none⟩ ∧ ∀ u, Below w.heap.size w u → u.cell? ⟨b1, o1 + k, none⟩ = some (.int .i64 l[k])) := fun k h1 => by
    obtain ⟨b1, o1, c1, e1, x1⟩ := hm.at h1
    cases e1
    exact ⟨b1, o1, rfl, fun u hb => by rw [hb.cell (World.block_lt_of_cell? _ _ x1)]; exact x1⟩
  have HT : Hid (∀ k (h1 : k < l.length) u, Below w.heap.size w u → Calls Tryd.prog 27 #[.int .i64 l[k]] u fun e w' => e = .returned (.string (txt l[k])) ∧ Below u.heap.size u w') := fun k h1 u hb => by
    have hb2 := i64_bounds (hw l[k] (List.getElem_mem h1))
    exact text_any l[k] hb2.1 hb2.2 u (HP.out u hb)
  have HJ : Hid (∀ g u, Fill g l.length l.length (l.map txt) u → Calls Tryd.prog 38 #[.slice (some ⟨g, 0, none⟩) l.length l.length, .string ⟨#[32]⟩] u fun e w' => e = .returned (.string (joined l)) ∧ Below u.heap.size u w') := fun g u h => by
    have hjl := joined_len l hw
    have := join_any g l.length (l.map txt) u (by simp) h (by omega) (by rw [map_txt]; omega)
    rwa [map_txt] at this
  have HS : Hid ((joined l).size ≤ 140737488355328) := by
    have hjl := joined_len l hw
    show (Lib.join (l.map Lib.itoa) [32]).toArray.size ≤ _
    rw [List.size_toArray]; omega
  have hmk : ∀ u : World, (Instr.makeSlice 69 (.int .i64 (l.length : Int)) (.int .i64 (l.length : Int))).run Tryd.prog u =
      .ok (.slice (some ⟨u.heap.size, 0, none⟩) l.length l.length) (u.alloc (.cells (madeCells #[.string ⟨#[]⟩] l.length) 9)) := fun u => by
    have h := run_make (P := Tryd.prog) u 69 9 i0 (.string ⟨#[]⟩) Tryd.underlying69 hi hz0 .i64 .i64 (l.length : Int) (l.length : Int) (by omega) (Int.le_refl _) (by rw [hz2]; omega) (by omega)
    simpa [hz1, Value.cells] using h
  unfold showL
  clear hm hp hw
  go_enter Tryd.func29, Tryd.ntmps29
  go_wp2_with fail
  go_loopw [11] (fun i wr => ∃ k : Nat, k ≤ l.length ∧ i = .int .i64 k ∧ Hid (Fill w.heap.size l.length k (l.map txt) wr) ∧ Hid (Below w.heap.size w wr)) (fun i _ => l.length - (intOf i).toNat)
  case atStart => exact ⟨0, Nat.zero_le _, rfl, Fill.new w _ _, (Below.refl _ _).alloc (Nat.le_refl _) _⟩
  case round =>
    obtain ⟨k, hk, rfl, HF, HB⟩ := hrel
    by_cases hlt : k < l.length
    · obtain ⟨b1, o1, rfl, hx⟩ := HX.out k hlt
      have hx2 := hx wr HB.out
      have HTK : Hid _ := HT.out k hlt wr HB.out
      have hlk : (l.map txt)[k]? = some (txt l[k]) := by simp [hlt]
      have HLK : Hid _ := hlk
      clear hlk
      have hlt2 : (k : Int) < (l.length : Int) := by omega
      clear hx
      generalize l[k] = p at *
      go_wp2_with fail
      refine Calls.mono HTK.out ?_
      rintro e w1 ⟨rfl, hb1⟩
      have HF1 : Hid _ := HF.out.below hb1
      have HB1 : Hid (Below w.heap.size w w1) := HB.out.trans (hb1.mono HB.out.size)
      obtain ⟨s0, c0, f0⟩ := HF1.out.cell k hlt
      clear hb1
      go_wp2_with fail
      go_roundw
      case rel => exact ⟨k + 1, by omega, by go_num, HF1.out.put HLK.out hlt, HB1.out.setCell (Nat.le_refl _) _⟩
      case measure => simp [intOf]; omega
    · have hkn : k = l.length := by omega
      subst hkn
      have hlt2 : ¬ (l.length : Int) < (l.length : Int) := by omega
      go_wp2_with fail
      refine (HJ.out _ _ HF.out).mono ?_
      rintro e w1 ⟨rfl, hb1⟩
      have HB1 : Hid (Below w.heap.size w w1) := HB.out.trans (hb1.mono HB.out.size)
      clear hb1
      have hs1 : ¬ 9223372036854775807 < 1 + (joined l).size := by have := HS.out; omega
      have hs2 : ¬ 9223372036854775807 < 1 + (joined l).size + 1 := by have := HS.out; omega
      go_wp2_with fail
      go_ret
      exact ⟨rfl, HB1.out⟩
theorem show_below {w : World} {o : Obj} : Below w.heap.size w (w.alloc o) := (Below.refl _ _).alloc (Nat.le_refl _) _
set_option maxHeartbeats 4000000 in
theorem own_show (x : Vv) (L : Value) (w : World) (hi : VIn x) (hm : ILies w L x.l) (hz : x.kind = 6 → x.l.length ≤ 1099511627776) (hp : Pow w) :
    Calls Tryd.prog 19 #[vval x L] w fun e w' => e = .returned (.string (showV x)) ∧ Below w.heap.size w w' := by
  have HT : Hid (∀ o, Calls Tryd.prog 27 #[.int .i64 x.n] (w.alloc o) fun e w' => e = .returned (.string (txt x.n)) ∧ Below (w.alloc o).heap.size (w.alloc o) w') := fun o => by
    have hb := i64_bounds hi.wn
    exact text_any x.n hb.1 hb.2 _ (hp.below show_below)
  have HL : Hid (x.l.length ≤ 1099511627776 → ∀ o, Calls Tryd.prog 29 #[L] (w.alloc o) fun e w' => e = .returned (.string (showL x.l)) ∧ Below (w.alloc o).heap.size (w.alloc o) w') := fun hz o => own_showList x.l L _ (hm.below show_below (Nat.le_refl _)) hi.wl hz (hp.below show_below)
  obtain ⟨ao, cap, hL⟩ := hm.shape
  subst hL
  clear hi hm hp
  obtain ⟨k, n, s, l⟩ := x
  simp only [vval] at *
  by_cases h1 : k = 1
  · subst h1
    rw [show showV ⟨1, n, s, l⟩ = txt n by simp [showV]]
    clear HL hz
    go_enter Tryd.func19, Tryd.ntmps19
    go_wp2_with fail
    refine (HT.out _).mono ?_
    rintro e w1 ⟨rfl, hb⟩
    go_wp2_with fail
    go_ret
    exact ⟨rfl, below_up hb⟩
  by_cases h2 : k = 2
  · subst h2
    rw [show showV ⟨2, n, s, l⟩ = showB n by simp [showV]]
    clear HL HT hz
    have HSB : Hid (∀ u, Calls Tryd.prog 28 #[.int .i64 n] u fun e w' => e = .returned (.string (showB n)) ∧ w' = u) := fun u => own_showBool n u
    generalize showB n = b at *
    go_enter Tryd.func19, Tryd.ntmps19
    go_wp2_with fail
    refine (HSB.out _).mono ?_
    rintro e w1 ⟨rfl, rfl⟩
    go_wp2_with fail
    go_ret
    exact ⟨rfl, show_below⟩
  by_cases h6 : k = 6
  · subst h6
    rw [show showV ⟨6, n, s, l⟩ = showL l by simp [showV]]
    have HL2 : Hid _ := HL.out (hz rfl)
    clear HL HT hz
    generalize showL l = b at *
    go_enter Tryd.func19, Tryd.ntmps19
    go_wp2_with fail
    refine (HL2.out _).mono ?_
    rintro e w1 ⟨rfl, hb⟩
    go_wp2_with fail
    go_ret
    exact ⟨rfl, below_up hb⟩
  clear HL HT hz
  by_cases h3 : k = 3
  · subst h3
    rw [show showV ⟨3, n, s, l⟩ = s by simp [showV]]
    go_enter Tryd.func19, Tryd.ntmps19
    go_wp2_with fail
    go_ret
    exact ⟨rfl, show_below⟩
  by_cases h5 : k = 5
  · subst h5
    rw [show showV ⟨5, n, s, l⟩ = s by simp [showV]]
    go_enter Tryd.func19, Tryd.ntmps19
    go_wp2_with fail
    go_ret
    exact ⟨rfl, show_below⟩
  by_cases h4 : k = 4
  · subst h4
    rw [show showV ⟨4, n, s, l⟩ = ⟨#[110, 105, 108]⟩ by simp [showV]]
    go_enter Tryd.func19, Tryd.ntmps19
    go_wp2_with fail
    go_ret
    exact ⟨rfl, show_below⟩
  by_cases h7 : k = 7
  · subst h7
    rw [show showV ⟨7, n, s, l⟩ = ⟨#[112, 111, 105, 110, 116, 101, 114]⟩ by simp [showV]]
    go_enter Tryd.func19, Tryd.ntmps19
    go_wp2_with fail
    go_ret
    exact ⟨rfl, show_below⟩
  by_cases h8 : k = 8
  · subst h8
    rw [show showV ⟨8, n, s, l⟩ = ⟨#[102, 117, 110, 99]⟩ by simp [showV]]
    go_enter Tryd.func19, Tryd.ntmps19
    go_wp2_with fail
    go_ret
    exact ⟨rfl, show_below⟩
  rw [show showV ⟨k, n, s, l⟩ = ⟨#[]⟩ by simp [showV, h1, h2, h3, h4, h5, h6, h7, h8]]
  go_enter Tryd.func19, Tryd.ntmps19
  go_wp2_with fail
  go_ret
  exact ⟨rfl, show_below⟩
end Go.Proofs.YtncjaohiimenaabDoor
