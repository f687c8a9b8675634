/- The contract of the big numbers' Text at base 10, and of String. -/
import Derived.Test.YtncjaohiimenaaaDoorBig5
import Derived.Test.YtncjaohiimenaaaDoorDigplain
import Derived.Laws.BytesString
import Derived.Laws.Cells
import Derived.Lib.ItoaMem
namespace Go.Proofs.YtncjaohiimenaaaDoor
set_option maxRecDepth 100000
open Go.ChangeShapes Go.WideShapes Go.ChangeAt Go.RowKit

theorem Tryd.infoU8 : (Tryd.prog.info? 5).map (fun i => (i.zero, i.size, i.bytes)) = some (some (.int .u8 0), 1, 1) := by kernel_rfl
/-- The number that a slice of words stands for in a world: a measure. -/
def rowVal (w : World) : Value → Nat
  | .slice (some a) n _ => (nv ((List.range n).map fun j => match w.cell? ⟨a.block, j, none⟩ with | some (.int _ x) => x | _ => 0)).toNat
  | _ => 0
theorem rowVal_eq {w : World} {v : Value} {ws : List Int} (h : Row w v ws) : rowVal w v = (nv ws).toNat := by
  rcases h.shape with ⟨rfl, rfl⟩ | ⟨g, cap, rfl, _, _, hc, _⟩
  · rfl
  · have e : ((List.range ws.length).map fun j => match w.cell? ⟨g, j, none⟩ with | some (.int _ x) => x | _ => 0) = ws := by
      apply List.ext_getElem?
      intro t
      by_cases ht : t < ws.length
      · rw [List.getElem?_map, List.getElem?_range ht, Option.map_some, hc t ht, getD_of ht]
      · rw [List.getElem?_eq_none (by simp; omega), List.getElem?_eq_none (by omega)]
    show (nv ((List.range ws.length).map fun j => match w.cell? ⟨g, j, none⟩ with | some (.int _ x) => x | _ => 0)).toNat = _
    rw [e]

theorem fold_push (l : List Int) : ∀ s : ByteArray, l.foldl (fun r n => r.push (UInt8.ofNat n.toNat)) s = ⟨s.data ++ (l.map byt).toArray⟩ := by
  induction l with
  | nil => intro s; simp
  | cons x l ih =>
    intro s
    rw [List.foldl_cons, ih]
    congr 1
    simp [byt, ByteArray.push]
/-- string(b) of a row of bytes. -/
theorem run_str {w : World} {B g n cap : Nat} {l : List Int} (hn : n = l.length) (h : w.ownsRow B 5 1 (.slice (some ⟨g, 0, none⟩) n cap) n (l.map (Value.int .u8))) :
    (convert 49 9 (.slice (some ⟨g, 0, none⟩) n cap)).run Tryd.prog w = .ok (.string ⟨(l.map byt).toArray⟩) w := by
  subst hn
  rw [run_convert_bytes_string w 49 9 5 _ _ _ Tryd.underlying49 Tryd.underlying5 Tryd.underlying9]
  have hl := run_loadCells_list (P := Tryd.prog) w ⟨g, 0, none⟩ (l.map (Value.int .u8)) (h.cells rfl)
  rw [List.length_map] at hl
  rw [run_bytesToString w ⟨g, 0, none⟩ l.length cap l hl, fold_push, show ByteArray.empty.data = #[] from rfl, Array.empty_append]
/-- One byte appended to a row of bytes of the call's own: the law's arguments, met once. -/
theorem byte_one (x : Int) : ∀ u ∈ [Value.int .u8 x], u.oneCell' = true := fun u hu => by simp at hu; subst hu; rfl

/-- A row of bytes lies apart from a row of words. -/
theorem apart_u8 {w : World} {B n : Nat} {v u : Value} {xs : List Value} {ws : List Int} (h : w.ownsRow B 5 1 v n xs) (hr : Row w u ws) : ∀ k, u.ownBlock = some k → some k ≠ v.ownBlock := by
  intro k hk e
  rcases h.2 with ⟨rfl, _⟩ | ⟨g, cap, cur, rfl, _, hh, _⟩
  · cases e
  · cases e
    rcases hr.1.2 with ⟨rfl, _⟩ | ⟨g', cap', cur', rfl, _, hh', _⟩
    · cases hk
    · cases hk
      rw [hh] at hh'
      simp at hh'
theorem owns_below {w w' : World} {B e n : Nat} {v : Value} {xs : List Value} (h : w.ownsRow B e 1 v n xs) (hb : Below w.heap.size w w') : w'.ownsRow B e 1 v n xs :=
  h.kept (grown_of_below (r := none) hb) (by cases v.ownBlock <;> simp)
theorem owns_slice {w : World} {B e n : Nat} {v : Value} {xs : List Value} (h : w.ownsRow B e 1 v n xs) : ∃ ao cap, v = .slice ao n cap := by
  rcases h.2 with ⟨rfl, rfl⟩ | ⟨g, cap, cur, rfl, _⟩
  · exact ⟨_, _, rfl⟩
  · exact ⟨_, _, rfl⟩
/-- The text of a number's sign and size. -/
def bytesOf (neg : Bool) (u : Nat) : List Int := if neg then rdig u ++ [45] else rdig u
theorem itoa_bytes {z : Int} {neg : Bool} {m : Int} (hm : 0 < m) (hz : z = if neg then - m else m) : ((bytesOf neg m.toNat).reverse).map byt = Lib.itoa z := by
  have h0 : m.toNat ≠ 0 := by omega
  unfold bytesOf Lib.itoa
  cases neg
  · simp only [Bool.false_eq_true, if_false] at hz ⊢
    rw [if_neg (by omega), hz, dec_rdig _ h0]
  · simp only [if_true] at hz ⊢
    rw [if_pos (by omega), hz, show (-m).natAbs = m.toNat from by omega, dec_rdig _ h0, List.reverse_append, List.map_append]
    rfl

set_option maxHeartbeats 1000000 in
theorem text10_any (b : Nat) (z : Int) (w : World) (h : Big w b z) (hlo : - (10 ^ 40 : Int) < z) (hhi : z < 10 ^ 40) :
    Calls Tryd.prog 42 #[.pointer (some ⟨b, 0, none⟩), .int .i64 10] w fun e w' => e = .returned (.string ⟨(Lib.itoa z).toArray⟩) ∧ Below w.heap.size w w' := by
  obtain ⟨neg, v, ws, hi, hr, hn, hne, hz⟩ := h
  obtain ⟨c0, c1, -, -⟩ := hi.cells
  obtain ⟨ao, n, cap, rfl, hm, hlen⟩ := hr.slice
  unfold maxLen at hm
  have hnn := (nv_range hr.wds).1
  by_cases h0 : n = 0
  · subst h0
    obtain rfl : ws = [] := List.length_eq_zero_iff.1 hlen.symm
    have e : (⟨(Lib.itoa z).toArray⟩ : ByteArray) = ⟨#[48]⟩ := by
      have : z = 0 := by rw [hz]; simp [nv]
      rw [this]
      unfold Lib.itoa
      rw [if_neg (by decide), Lib.decDigits_one (by decide)]
      rfl
    rw [e]
    clear e hz hne hn hr hi hlen hlo hhi hnn
    go_enter Tryd.func42, Tryd.ntmps42
    go_wp2
    go_ret
    exact ⟨rfl, Below.refl _ _⟩
  have hws : ws ≠ [] := by intro e; subst e; simp at hlen; omega
  have hpos := nv_pos hr.wds hn hws
  have hu : nv ws < 10 ^ 40 := by
    cases neg
    · simp at hz; omega
    · simp at hz; omega
  have hl5 : ws.length ≤ 5 := nv_len hr.wds hn (Int.lt_trans hu (by decide))
  have HIT : Hid (((bytesOf neg (nv ws).toNat).reverse).map byt = Lib.itoa z) := itoa_bytes hpos hz
  have HRD : Hid ((rdig (nv ws).toNat).length ≤ 40) := rdig_len 40 _ (by
    have e : ((10 ^ 40 : Nat) : Int) = (10 : Int) ^ 40 := by norm_cast
    omega)
  have HROW : Hid (Row w (.slice ao n cap) ws) := hr
  have HNORM : Hid (Norm ws) := hn
  have hn0 : ((n : Int) == 0) = false := by simp; omega
  obtain ⟨i0, hi0, hz0, hz1, hz2⟩ := info_parts Tryd.infoU8
  have HIB : Hid (IntBlock w b neg (.slice ao n cap)) := hi
  have HPOS : Hid (0 < nv ws ∧ ws.length ≤ 5) := ⟨hpos, hl5⟩
  clear hz hne hn hr hi hlo hhi hu hl5 hpos hws hnn hm hlen
  go_enter Tryd.func42, Tryd.ntmps42
  go_wp2_with fail
  refine (twin_any _ _ _ HROW.out (by have := HPOS.out.2; omega)).mono ?_
  rintro e w1 ⟨v1, rfl, hr1, hb1⟩
  obtain ⟨ao1, n1, cap1, rfl, hm1, hlen1⟩ := hr1.slice
  have HA1 : Hid (Row w1 (.slice ao1 n1 cap1) ws) := hr1
  clear hr1 hm1 hlen1
  go_wp2
  go_loopw [5, 6] (fun bv av wr => ∃ (bs cs : List Int) (bo : Option Addr) (bc : Nat) (co : Option Addr) (cn cc : Nat), bv = .slice bo bs.length bc ∧ av = .slice co cn cc ∧ Hid (wr.ownsRow w.heap.size 5 1 (.slice bo bs.length bc) bs.length (bs.map (Value.int .u8)) ∧ Row wr (.slice co cn cc) cs ∧ Norm cs ∧ cs.length ≤ 5 ∧ bs ++ rdig (nv cs).toNat = rdig (nv ws).toNat) ∧ Below w.heap.size w wr)
    (fun _ av wr => rowVal wr av)
  case atStart => exact ⟨[], ws, none, 0, ao1, n1, cap1, rfl, rfl, ⟨World.ownsRow_nil _ _ _ _, HA1.out, HNORM.out, HPOS.out.2, rfl⟩, hb1⟩
  case round =>
    obtain ⟨bs, cs, bo, bc, co, cn, cc, rfl, rfl, HX, hbel⟩ := hrel
    have hcn : cn = cs.length := by
      obtain ⟨_, _, _, e, _, h2⟩ := HX.out.2.1.slice
      cases e
      exact h2
    have hcn5 : cn ≤ 5 := by have := HX.out.2.2.2.1; omega
    have hbs : bs.length ≤ 40 := by
      have h1 := congrArg List.length HX.out.2.2.2.2
      have h2 := HRD.out
      simp at h1
      omega
    have HCN : Hid (cn = cs.length) := hcn
    clear hcn
    by_cases hz : cn = 0
    · have hbsu : bs = rdig (nv ws).toNat := by
        have h1 := HX.out.2.2.2.2
        have h2 : cs = [] := List.length_eq_zero_iff.1 (by rw [← HCN.out]; exact hz)
        subst h2
        simpa [nv, rdig_zero] using h1
      obtain ⟨k0, -, -, -⟩ := (show IntBlock wr b neg (.slice ao n cap) from (hbel.block b HIB.out.lt).trans HIB.out).cells
      have hown := HX.out.1
      have hsz := hbel.size
      have hb1 : 1 ≤ bs.length := by
        rw [hbsu, rdig_pos (by have := HPOS.out.1; omega)]; simp
      obtain ⟨bo, rfl⟩ : ∃ g, bo = some ⟨g, 0, none⟩ := by
        rcases hown.2 with ⟨h1, _⟩ | ⟨g, _, _, h1, _⟩
        · simp only [Value.slice.injEq] at h1
          omega
        · simp only [Value.slice.injEq] at h1
          exact ⟨g, h1.1⟩
      have HB : Hid (bs = rdig (nv ws).toNat) := hbsu
      subst hz
      clear hbsu HX HCN hcn5
      cases neg
      · obtain ⟨L, HLL, hLlen⟩ : ∃ L : List Int, Hid (L = bytesOf false (nv ws).toNat) ∧ L.length = bs.length := ⟨_, rfl, by unfold bytesOf; rw [← HB.out]; rfl⟩
        have HO : Hid (wr.ownsRow w.heap.size 5 1 (.slice (some ⟨bo, 0, none⟩) L.length bc) L.length (L.map (Value.int .u8))) := by
          have e : L = bs := by rw [HLL.out, HB.out]; rfl
          subst e; exact hown
        obtain ⟨g, hg⟩ : ∃ g, g = bo := ⟨_, rfl⟩
        subst hg
        obtain ⟨gc, hgc⟩ : ∃ gc, gc = bc := ⟨_, rfl⟩
        subst hgc
        have hbelL := hbel
        have hL1 : 1 ≤ L.length := by omega
        have hL2 : L.length ≤ 41 := by omega
        rw [← hLlen]
        clear hown hLlen hb1 hbs hbel HB
        go_wp2
        go_loopw [8, 9] (fun ii jj wq => ∃ k : Nat, 2 * k ≤ L.length ∧ ii = .int .i64 k ∧ jj = .int .i64 ((L.length : Int) - 1 - k) ∧ Hid (wq.ownsRow w.heap.size 5 1 (.slice (some ⟨g, 0, none⟩) L.length gc) L.length ((rv L k).map (Value.int .u8))) ∧ Below w.heap.size w wq)
          (fun ii jj _ => (intOf jj - intOf ii).toNat)
        case atStart => exact ⟨0, by omega, rfl, by simp, by rw [rv_zero]; exact HO.out, hbelL⟩
        case round =>
          obtain ⟨k, hk, rfl, rfl, HQ, hbq⟩ := hrel
          by_cases hlt : 2 * k + 1 < L.length
          · have e1 : L.length - 1 - k < L.length := by omega
            have p1 : wr.cell? ⟨g, k, none⟩ = some (.int .u8 ((rv L k).getD k 0)) := by
              rw [HQ.out.cellAt k (by omega), List.getElem?_map, getD_of (by rw [rv_len]; omega)]; rfl
            have p2 : wr.cell? ⟨g, L.length - 1 - k, none⟩ = some (.int .u8 ((rv L k).getD (L.length - 1 - k) 0)) := by
              rw [HQ.out.cellAt (L.length - 1 - k) (by omega), List.getElem?_map, getD_of (by rw [rv_len]; omega)]; rfl
            have f1 := HQ.out.frozenAt k
            have f2 := HQ.out.frozenAt (L.length - 1 - k)
            have HS : Hid (((rv L k).set k ((rv L k).getD (L.length - 1 - k) 0)).set (L.length - 1 - k) ((rv L k).getD k 0) = rv L (k + 1)) := rv_step hlt
            generalize (rv L k).getD k 0 = x at *
            generalize (rv L k).getD (L.length - 1 - k) 0 = y at *
            obtain ⟨jn, hjn⟩ : ∃ jn : Nat, jn = L.length - 1 - k := ⟨_, rfl⟩
            have HJ : Hid (jn = L.length - 1 - k) := hjn
            have hj2 : ((L.length : Int) - 1 - k) = (jn : Int) := by omega
            rw [← hjn] at p2 f2 e1
            rw [hj2]
            have hjk : k < jn := by omega
            clear hj2 hjn
            go_wp2
            obtain ⟨o1, g1⟩ := HQ.out.stored k (.int .u8 y)
            obtain ⟨o2, g2⟩ := o1.stored jn (.int .u8 x)
            have hbase := (HQ.out.lt g rfl).1
            have q1 := hbq.grown g1 hbq.size (fun t ht => by cases ht; exact hbase)
            exact ⟨⟨k + 1, by omega, by go_num, by have := HJ.out; exact congrArg (Value.int .i64) (by omega), by
              have e : rv L (k + 1) = ((rv L k).set k y).set jn x := by rw [HJ.out]; exact HS.out.symm
              rw [e, List.map_set, List.map_set]; exact o2, q1.grown g2 q1.size (fun t ht => by cases ht; exact hbase)⟩, by simp [intOf]; omega⟩
          · have hcv := run_str (by rw [rv_len]) HQ.out
            have HE : Hid (rv L k = L.reverse) := rv_end L k (by omega)
            go_wp2
            go_ret
            exact ⟨by rw [HE.out, HLL.out, HIT.out]; rfl, hbq⟩
      · go_wp2_with (at_builtin; refine wpList_append_own _ rfl _ _ 49 rfl w.heap.size 5 i0 (.int .u8 0) 1 1 Tryd.underlying49 hi0 hz0 hz1 hz2 rfl (by decide) (.slice (some ⟨bo, 0, none⟩) bs.length bc) bs.length (bs.map (Value.int .u8)) rfl (hown.alloc _) ⟨wr.heap.size, 0, none⟩ 1 1 [.int .u8 45] rfl rfl (cell_one_new _ _ _) (byte_one _) (by unfold maxLen; omega) (by omega) (by simp; omega) ?_; intro v' w3 hown' hgrow3 hnil3)
        obtain ⟨g, gc, hv'⟩ : ∃ g gc, v' = .slice (some ⟨g, 0, none⟩) (bs.length + 1) gc := by
          rcases hown'.2 with ⟨_, h1⟩ | ⟨g, gc, _, h1, _⟩
          · omega
          · exact ⟨g, gc, h1⟩
        subst hv'
        obtain ⟨L, HLL, hLlen⟩ : ∃ L : List Int, Hid (L = bytesOf true (nv ws).toNat) ∧ L.length = bs.length + 1 := ⟨_, rfl, by unfold bytesOf; rw [← HB.out]; simp⟩
        have HO : Hid (w3.ownsRow w.heap.size 5 1 (.slice (some ⟨g, 0, none⟩) L.length gc) L.length (L.map (Value.int .u8))) := by
          have e : L = bs ++ [45] := by rw [HLL.out, HB.out]; rfl
          show w3.ownsRow w.heap.size 5 1 (.slice (some ⟨g, 0, none⟩) L.length gc) L.length (L.map (Value.int .u8))
          rw [hLlen, e, List.map_append]; exact hown'
        have hbelL : Below w.heap.size w w3 := (hbel.alloc hsz _).grown hgrow3 (by simp; omega) (fun t ht => (hown.lt t ht).1)
        have hL1 : 1 ≤ L.length := by omega
        have hL2 : L.length ≤ 41 := by omega
        rw [← hLlen]
        clear hown hown' hLlen hb1 hbs hbel HB hgrow3 hnil3
        go_simp
        go_wp2
        go_loopw [8, 9] (fun ii jj wq => ∃ k : Nat, 2 * k ≤ L.length ∧ ii = .int .i64 k ∧ jj = .int .i64 ((L.length : Int) - 1 - k) ∧ Hid (wq.ownsRow w.heap.size 5 1 (.slice (some ⟨g, 0, none⟩) L.length gc) L.length ((rv L k).map (Value.int .u8))) ∧ Below w.heap.size w wq)
          (fun ii jj _ => (intOf jj - intOf ii).toNat)
        case atStart => exact ⟨0, by omega, rfl, by simp, by rw [rv_zero]; exact HO.out, hbelL⟩
        case round =>
          obtain ⟨k, hk, rfl, rfl, HQ, hbq⟩ := hrel
          by_cases hlt : 2 * k + 1 < L.length
          · have e1 : L.length - 1 - k < L.length := by omega
            have p1 : wr.cell? ⟨g, k, none⟩ = some (.int .u8 ((rv L k).getD k 0)) := by
              rw [HQ.out.cellAt k (by omega), List.getElem?_map, getD_of (by rw [rv_len]; omega)]; rfl
            have p2 : wr.cell? ⟨g, L.length - 1 - k, none⟩ = some (.int .u8 ((rv L k).getD (L.length - 1 - k) 0)) := by
              rw [HQ.out.cellAt (L.length - 1 - k) (by omega), List.getElem?_map, getD_of (by rw [rv_len]; omega)]; rfl
            have f1 := HQ.out.frozenAt k
            have f2 := HQ.out.frozenAt (L.length - 1 - k)
            have HS : Hid (((rv L k).set k ((rv L k).getD (L.length - 1 - k) 0)).set (L.length - 1 - k) ((rv L k).getD k 0) = rv L (k + 1)) := rv_step hlt
            generalize (rv L k).getD k 0 = x at *
            generalize (rv L k).getD (L.length - 1 - k) 0 = y at *
            obtain ⟨jn, hjn⟩ : ∃ jn : Nat, jn = L.length - 1 - k := ⟨_, rfl⟩
            have HJ : Hid (jn = L.length - 1 - k) := hjn
            have hj2 : ((L.length : Int) - 1 - k) = (jn : Int) := by omega
            rw [← hjn] at p2 f2 e1
            rw [hj2]
            have hjk : k < jn := by omega
            clear hj2 hjn
            go_wp2
            obtain ⟨o1, g1⟩ := HQ.out.stored k (.int .u8 y)
            obtain ⟨o2, g2⟩ := o1.stored jn (.int .u8 x)
            have hbase := (HQ.out.lt g rfl).1
            have q1 := hbq.grown g1 hbq.size (fun t ht => by cases ht; exact hbase)
            exact ⟨⟨k + 1, by omega, by go_num, by have := HJ.out; exact congrArg (Value.int .i64) (by omega), by
              have e : rv L (k + 1) = ((rv L k).set k y).set jn x := by rw [HJ.out]; exact HS.out.symm
              rw [e, List.map_set, List.map_set]; exact o2, q1.grown g2 q1.size (fun t ht => by cases ht; exact hbase)⟩, by simp [intOf]; omega⟩
          · have hcv := run_str (by rw [rv_len]) HQ.out
            have HE : Hid (rv L k = L.reverse) := rv_end L k (by omega)
            go_wp2
            go_ret
            exact ⟨by rw [HE.out, HLL.out, HIT.out]; rfl, hbq⟩
    · have hcp : (0 : Int) < (cn : Int) := by omega
      clear hcn5
      go_wp2_with fail
      refine (small_any _ cs 10 (by decide) (by decide) _ HX.out.2.1 (by have := HX.out.2.2.2.1; omega)).mono ?_
      rintro e w2 ⟨v2, ds, rfl, hr2, hn2, hv2, hl2, hb2⟩
      obtain ⟨do2, dn, dc, rfl, hm2, hlen2⟩ := hr2.slice
      have hcpos : 0 < nv cs := nv_pos HX.out.2.1.wds HX.out.2.2.1 (by intro e; have := HCN.out; subst e; simp at this; omega)
      have hdig : nv cs % 10 < 10 := by omega
      have hdig0 : 0 ≤ nv cs % 10 := by omega
      have hown2 : w2.ownsRow w.heap.size 5 1 (.slice bo bs.length bc) bs.length (bs.map (Value.int .u8)) := owns_below HX.out.1 hb2
      have hrd : (bs ++ [48 + nv cs % 10]) ++ rdig (nv ds).toNat = rdig (nv ws).toNat := by
        rw [← HX.out.2.2.2.2, rdig_pos (u := (nv cs).toNat) (by omega), hv2, List.append_assoc]
        congr 1
        have e1 : ((48 + (nv cs).toNat % 10 : Nat) : Int) = 48 + nv cs % 10 := by omega
        have e2 : (nv cs / 10).toNat = (nv cs).toNat / 10 := by omega
        rw [e1, e2]
        rfl
      have HRD2 : Hid ((bs ++ [48 + nv cs % 10]) ++ rdig (nv ds).toNat = rdig (nv ws).toNat) := hrd
      have HM : Hid ((nv ds).toNat < (nv cs).toNat) := by show (nv ds).toNat < (nv cs).toNat; rw [hv2]; omega
      have HR2 : Hid (Row w2 (.slice do2 dn dc) ds ∧ Norm ds ∧ ds.length ≤ 5) := ⟨hr2, hn2, by have := HX.out.2.2.2.1; omega⟩
      have HXX : Hid (Row wr (.slice co cn cc) cs) := HX.out.2.1
      have hsz2 := (below_trans hbel hb2).size
      generalize hq : nv cs % 10 = q at *
      clear hr2 hn2 hv2 hl2 hm2 hlen2 hrd hcpos hq HX HCN
      go_wp2_with (at_builtin; refine wpList_append_own _ rfl _ _ 49 rfl w.heap.size 5 i0 (.int .u8 0) 1 1 Tryd.underlying49 hi0 hz0 hz1 hz2 rfl (by decide) (.slice bo bs.length bc) bs.length (bs.map (Value.int .u8)) rfl (hown2.alloc _) ⟨w2.heap.size, 0, none⟩ 1 1 [.int .u8 (48 + q)] rfl rfl (cell_one_new _ _ _) (byte_one _) (by unfold maxLen; omega) (by omega) (by simp; omega) ?_; intro v' w3 hown' hgrow3 hnil3)
      obtain ⟨bo', bc', rfl⟩ := owns_slice hown'
      have hr3 : Row w3 (.slice do2 dn dc) ds := row_kept HR2.out.1 fun k hk =>
        (hgrow3.block k (by have := HR2.out.1.lt k hk; simp; omega) (apart_u8 hown2 HR2.out.1 k hk)).trans (((Below.refl _ w2).alloc (Nat.le_refl _) _).block k (HR2.out.1.lt k hk))
      exact ⟨⟨bs ++ [48 + q], ds, bo', bc', do2, dn, dc, by simp, rfl, ⟨by simpa using hown', hr3, HR2.out.2.1, HR2.out.2.2, HRD2.out⟩,
        (((below_trans hbel hb2).alloc hsz2 _).grown hgrow3 (by simp; omega) (fun k hk => (hown2.lt k hk).1))⟩, by rw [rowVal_eq hr3, rowVal_eq HXX.out]; exact HM.out⟩

theorem string_any (b : Nat) (z : Int) (w : World) (h : Big w b z) (hlo : - (10 ^ 40 : Int) < z) (hhi : z < 10 ^ 40) :
    Calls Tryd.prog 36 #[.pointer (some ⟨b, 0, none⟩)] w fun e w' => e = .returned (.string ⟨(Lib.itoa z).toArray⟩) ∧ Below w.heap.size w w' := by
  have HB : Hid (Big w b z) := h
  have HZ : Hid (- (10 ^ 40 : Int) < z ∧ z < 10 ^ 40) := ⟨hlo, hhi⟩
  clear h hlo hhi
  go_enter Tryd.func36, Tryd.ntmps36
  go_wp2_with fail
  refine (text10_any b z w HB.out HZ.out.1 HZ.out.2).mono ?_
  rintro e w1 ⟨rfl, hb⟩
  go_wp2
  go_ret
  exact ⟨rfl, hb⟩
end Go.Proofs.YtncjaohiimenaaaDoor
