/- Contracts of the big numbers: twin, small (a division by one word). -/
import Derived.Test.YtncjaohiimenaaaDoorBig3
import Derived.OwnWalk
import Derived.Deep.OwnRows
import Derived.Maps.AppendAt
import Derived.Laws.Bits64
namespace Go.Proofs.YtncjaohiimenaaaDoor
set_option maxRecDepth 100000
open Go.ChangeShapes Go.WideShapes Go.ChangeAt Go.RowKit

theorem Tryd.infoU32 : (Tryd.prog.info? 77).map (fun i => (i.zero, i.size, i.bytes)) = some (some (.int .u32 0), 1, 4) := by kernel_rfl
theorem wf_u32 {x : Int} (h : 0 ≤ x ∧ x < 4294967296) : (Lit.int .u32 x).wf = true := by
  simp [Lit.wf, IntKind.min, IntKind.max, IntKind.bits, IntKind.signed]; omega
theorem row_of {w : World} {B : Nat} {v : Value} {ws : List Int} {n : Nat} (hn : n = ws.length) (h : w.ownsRow B 77 1 v n (ws.map (Value.int .u32))) (hw : Wds ws) : Row w v ws := by
  subst hn
  refine ⟨⟨h.1, ?_⟩, fun z hz => wf_u32 (hw z hz)⟩
  rcases h.2 with h | ⟨g, cap, cur, h1, _, h2⟩
  · exact .inl h
  · exact .inr ⟨g, cap, cur, h1, Nat.zero_le _, h2⟩
theorem nv_drop {l : List Int} {k : Nat} (h : k < l.length) : nv (l.drop k) = l.getD k 0 + 4294967296 * nv (l.drop (k + 1)) := by
  rw [List.drop_eq_getElem_cons h, List.getD_eq_getElem?_getD, List.getElem?_eq_getElem h]
  rfl
theorem drop_set {l : List Int} {k : Nat} (x : Int) (h : k < l.length) : nv ((l.set k x).drop k) = x + 4294967296 * nv (l.drop (k + 1)) := by
  rw [nv_drop (by simpa using h), List.drop_set_of_lt (by omega), List.getD_eq_getElem?_getD, List.getElem?_set_self h]
  rfl
theorem Wds.set {l : List Int} (h : Wds l) {x : Int} (hx : 0 ≤ x ∧ x < 4294967296) (k : Nat) : Wds (l.set k x) := by
  intro y hy
  rcases List.mem_or_eq_of_mem_set hy with h1 | rfl
  · exact h y h1
  · exact hx
theorem wds_zeros (n : Nat) : Wds (List.replicate n 0) := fun x hx => by rw [(List.mem_replicate.1 hx).2]; omega

theorem small_step {ws qs : List Int} {j : Nat} {d r x : Int} (hj : j < ws.length) (hq : qs.length = ws.length) (hx : ws.getD j 0 = x) (_hd : 0 < d)
    (h : nv (ws.drop (j + 1)) = nv (qs.drop (j + 1)) * d + r) : nv (ws.drop j) = nv ((qs.set j ((r * 4294967296 + x) / d)).drop j) * d + (r * 4294967296 + x) % d := by
  rw [nv_drop hj, drop_set _ (by omega), h, hx]
  have := Int.mul_ediv_add_emod (r * 4294967296 + x) d
  generalize (r * 4294967296 + x) / d = q at *
  generalize (r * 4294967296 + x) % d = m at *
  generalize nv (List.drop (j + 1) qs) = y at *
  rw [Int.add_mul, Int.mul_assoc, Int.mul_comm q d]
  generalize d * q = a at *
  generalize y * d = b at *
  omega
theorem or_join (r x : Int) (h0 : 0 ≤ r) (h1 : r < 4294967296) (h2 : 0 ≤ x) (h3 : x < 4294967296) : bits .or .u64 (r * 4294967296) x = r * 4294967296 + x := by
  obtain ⟨a, rfl⟩ := Int.eq_ofNat_of_zero_le h0
  obtain ⟨b, rfl⟩ := Int.eq_ofNat_of_zero_le h2
  have e : ((a : Int) * 4294967296) = ((a * 4294967296 : Nat) : Int) := by omega
  rw [e, u64_or_nat _ _ (by omega) (by omega), nat_join 32 _ _ (by omega) (by omega)]
  omega

theorem add_at (g j : Nat) : (⟨g, 0, none⟩ : Addr).add j = ⟨g, j, none⟩ := by
  unfold Addr.add
  split <;> simp_all
theorem twin_any (v : Value) (ws : List Int) (w : World) (h : Row w v ws) (hl : ws.length ≤ 100000) :
    Calls Tryd.prog 48 #[v] w fun e w' => ∃ v', e = .returned v' ∧ Row w' v' ws ∧ Below w.heap.size w w' := by
  obtain ⟨i0, hi, hz0, hz1, hz2⟩ := info_parts Tryd.infoU32
  have hw := h.wds
  rcases h.shape with ⟨rfl, rfl⟩ | ⟨g, cap, rfl, hcap, hmax, hcell, -⟩
  · have HR : Hid (Row w (.slice none 0 0) []) := h
    clear h
    go_enter Tryd.func48, Tryd.ntmps48
    go_wp2
    go_ret
    exact ⟨_, rfl, HR.out, Below.refl _ _⟩
  · have hnews : ∀ j u, (ws.map (Value.int .u32))[j]? = some u → w.cell? ((⟨g, 0, none⟩ : Addr).add j) = some u := by
      intro j u hu
      rw [List.getElem?_map] at hu
      obtain ⟨x, hx, rfl⟩ := Option.map_eq_some_iff.1 hu
      have hj : j < ws.length := (List.getElem?_eq_some_iff.1 hx).1
      have := hcell j hj
      rw [List.getD_eq_getElem?_getD, hx] at this
      rw [add_at]
      simpa using this
    have HN : Hid (∀ j u, (ws.map (Value.int .u32))[j]? = some u → w.cell? ((⟨g, 0, none⟩ : Addr).add j) = some u) := hnews
    have hone : ∀ u ∈ ws.map (Value.int .u32), u.oneCell' = true := by
      intro u hu
      obtain ⟨x, _, rfl⟩ := List.mem_map.1 hu
      rfl
    have HO : Hid (∀ u ∈ ws.map (Value.int .u32), u.oneCell' = true) := hone
    have hlen : (ws.map (Value.int .u32)).length = ws.length * 1 := by simp
    have HL : Hid ((ws.map (Value.int .u32)).length = ws.length * 1) := hlen
    have HW : Hid (Wds ws) := hw
    clear h hcell hnews hone hlen hw
    go_enter Tryd.func48, Tryd.ntmps48
    go_wp2_with (at_builtin; refine wpList_append_own _ rfl _ _ 73 rfl w.heap.size 77 i0 (.int .u32 0) 1 4 Tryd.underlying73 hi hz0 hz1 hz2 rfl (by decide) (.slice none 0 0) 0 [] rfl (World.ownsRow_nil _ _ _ _) ⟨g, 0, none⟩ ws.length cap (ws.map (Value.int .u32)) rfl HL.out HN.out HO.out (by unfold maxLen; omega) (by omega) (Nat.le_refl _) ?_; intro v' w1 hown hgrow hnil)
    go_ret
    refine ⟨_, rfl, row_of (by simp) hown HW.out, ?_⟩
    exact (Below.refl _ _).grown hgrow (Nat.le_refl _) (fun k hk => by cases hk)

set_option maxHeartbeats 1600000 in
theorem small_any (v : Value) (ws : List Int) (d : Int) (hd0 : 0 < d) (hd1 : d < 4294967296) (w : World) (h : Row w v ws) (hl : ws.length ≤ 100000) :
    Calls Tryd.prog 49 #[v, .int .u32 d] w fun e w' => ∃ v' ws', e = .returned (.tuple #[v', .int .u32 (nv ws % d)]) ∧ Row w' v' ws' ∧ Norm ws' ∧ nv ws' = nv ws / d ∧ ws'.length ≤ ws.length ∧ Below w.heap.size w w' := by
  have hw := h.wds
  obtain ⟨ao, n, cap, rfl, hm, hn⟩ := h.slice
  have HROW : Hid (Row w (.slice ao n cap) ws) := h
  have HLEN : Hid (ws.length = n) := hn.symm
  have hmk := fun W => run_make_row' (P := Tryd.prog) 73 77 (.int .u32 0) 4 Tryd.underlying73 Tryd.infoU32 rfl .i64 .i64 n (by omega) (by omega) W
  have HWD : Hid (Wds ws) := hw
  have hn1 : n ≤ 100000 := by omega
  clear h hn hw hm hl
  go_enter Tryd.func49, Tryd.ntmps49
  go_wp2
  go_loopw [7, 8] (fun rr ii wr => ∃ (k : Nat) (r : Int) (qs : List Int), k ≤ n ∧ rr = .int .u64 r ∧ ii = .int .i64 ((k : Int) - 1) ∧ 0 ≤ r ∧ r < d ∧ wr.ownsRow w.heap.size 77 1 (.slice (some ⟨w.heap.size, 0, none⟩) n n) n (qs.map (Value.int .u32)) ∧ Hid (Wds qs ∧ qs.length = n ∧ nv (ws.drop k) = nv (qs.drop k) * d + r) ∧ Below w.heap.size w wr)
    (fun _ ii _ => (intOf ii + 1).toNat)
  case atStart =>
    refine ⟨n, 0, List.replicate n 0, Nat.le_refl _, rfl, rfl, by omega, hd0, ?_, ⟨wds_zeros n, by simp, ?_⟩, (Below.refl _ _).alloc (Nat.le_refl _) _⟩
    · have := World.ownsRow_lit (base := w.heap.size) (e := 77) (size := 1) w (madeCells #[.int .u32 0] n) n (Nat.le_refl _) (by unfold maxLen; omega) (by simp [madeCells])
      rw [toList_madeCells_one] at this
      rw [List.map_replicate]
      exact this
    · rw [List.drop_of_length_le (by rw [HLEN.out]; exact Nat.le_refl _), List.drop_of_length_le (by simp)]
      simp [nv]
  case round =>
    obtain ⟨k, r, qs, hk, rfl, rfl, hr0, hr1, hown, HQ, hbel⟩ := hrel
    rcases Nat.eq_zero_or_pos k with rfl | hpos
    · have hfin : nv ws = nv qs * d + r := by simpa using HQ.out.2.2
      have hq : nv ws / d = nv qs ∧ nv ws % d = r := by
        rw [hfin, Int.add_comm, Int.add_mul_ediv_right _ _ (by omega), Int.add_mul_emod_self_right, Int.ediv_eq_zero_of_lt hr0 hr1, Int.emod_eq_of_lt hr0 hr1]
        omega
      have HF : Hid (nv ws / d = nv qs ∧ nv ws % d = r) := hq
      have HR : Hid (Row wr (.slice (some ⟨w.heap.size, 0, none⟩) n n) qs) := row_of HQ.out.2.1.symm hown HQ.out.1
      clear hown hfin hq hmk
      go_wp2_with fail
      refine (trim_any _ _ _ HR.out).mono ?_
      rintro e w2 ⟨rfl, t, v', rfl, ht, hr', -, hz, hlast⟩
      go_wp2
      go_ret2
      exact ⟨_, _, by rw [HF.out.2]; rfl, hr', norm_take ht hlast, by rw [nv_take hz, HF.out.1], by rw [HLEN.out, List.length_take, HQ.out.2.1]; omega, hbel⟩
    · obtain ⟨j, rfl⟩ : ∃ j, k = j + 1 := ⟨k - 1, by omega⟩
      obtain ⟨ga, ca, ea, -, hca⟩ : ∃ g c, Value.slice ao n cap = .slice (some ⟨g, 0, none⟩) ws.length c ∧ True ∧ ∀ j, j < ws.length → wr.cell? ⟨g, j, none⟩ = some (.int .u32 (ws.getD j 0)) := by
        rcases (HROW.out.below hbel).shape with ⟨_, h2⟩ | ⟨g, c, h1, _, _, h3, _⟩
        · have := HLEN.out; rw [h2] at this; simp at this; omega
        · exact ⟨g, c, h1, trivial, h3⟩
      simp only [Value.slice.injEq] at ea
      obtain ⟨rfl, -, rfl⟩ := ea
      have c1 := hca j (by rw [HLEN.out]; omega)
      have hx := Wds.at HWD.out (i := j) (by rw [HLEN.out]; omega)
      generalize hxe : ws.getD j 0 = x at c1 hx
      have HX : Hid (ws.getD j 0 = x) := hxe
      obtain ⟨hx0, hx1⟩ := hx
      have c2 : ∃ u, wr.cell? ⟨w.heap.size, j, none⟩ = some (.int .u32 u) := by
        rw [hown.cellAt j (by omega), List.getElem?_map, List.getElem?_eq_getElem (by rw [HQ.out.2.1]; omega)]
        exact ⟨_, rfl⟩
      obtain ⟨u, c2⟩ := c2
      have f2 := hown.frozenAt j
      have hor := or_join r x hr0 (by omega) hx0 hx1
      have hq0 : 0 ≤ (r * 4294967296 + x) / d := Int.ediv_nonneg (by omega) (by omega)
      have hq1 : (r * 4294967296 + x) / d < 4294967296 := by
        apply Int.ediv_lt_of_lt_mul hd0
        omega
      have hm0 : 0 ≤ (r * 4294967296 + x) % d := Int.emod_nonneg _ (by omega)
      have hm1 : (r * 4294967296 + x) % d < d := Int.emod_lt_of_pos _ hd0
      have HOWN : Hid (wr.ownsRow w.heap.size 77 1 (.slice (some ⟨w.heap.size, 0, none⟩) n n) n (qs.map (Value.int .u32))) := hown
      clear hca hxe hown hmk
      go_wp2
      obtain ⟨ho', hg'⟩ := HOWN.out.stored j (.int .u32 ((r * 4294967296 + x) / d))
      exact ⟨⟨j, _, qs.set j ((r * 4294967296 + x) / d), by omega, rfl, rfl, hm0, hm1, by rw [List.map_set]; exact ho',
        ⟨HQ.out.1.set ⟨hq0, hq1⟩ j, by rw [List.length_set]; exact HQ.out.2.1, small_step (by rw [HLEN.out]; omega) (by rw [HQ.out.2.1, HLEN.out]) HX.out hd0 HQ.out.2.2⟩,
        hbel.grown hg' hbel.size (fun k hk => by cases hk; exact Nat.le_refl _)⟩, by simp [intOf]⟩
end Go.Proofs.YtncjaohiimenaaaDoor
