/- slices.Reverse of a row of calls, and the order of calls that are kept by records. -/
import Derived.Test.YtiaoidbhdkldlabCrev
namespace Go.Proofs.Ytiaoidbhdkldlab
open Go.ChangeShapes Go.WideShapes Go.ChangeAt Go.RowKit
set_option maxRecDepth 100000
set_option linter.unusedSimpArgs false
set_option linter.unusedVariables false
theorem CRow.cells {B g n cap k : Nat} {u : World} {ms : List Ce} {cs : List Cc} {e : Ce} (h : CRow B u (.slice (some ⟨g, 0, none⟩) n cap) ms cs) (hn : ms.length = n) (hk : ms[k]? = some e) : (u.cell? ⟨g, k * 3, none⟩ = some (.int .i64 e.x.site) ∧ u.cell? ⟨g, k * 3 + 1, none⟩ = some (.int .i64 e.x.fn) ∧ u.cell? ⟨g, k * 3 + 2, none⟩ = some e.L) ∧ u.frozen? ⟨g, k * 3, none⟩ = false ∧ u.frozen? ⟨g, k * 3 + 1, none⟩ = false ∧ u.frozen? ⟨g, k * 3 + 2, none⟩ = false := by
  subst hn
  have hkl := (List.getElem?_eq_some_iff.1 hk).1
  have hr := h.row
  refine ⟨⟨?_, ?_, ?_⟩, hr.frozenAt _, hr.frozenAt _, hr.frozenAt _⟩
  · rw [hr.cellAt (k * 3) (by omega)]
    have := ccells_get ms k 0 e (by decide) hk
    rw [Nat.add_zero] at this
    rw [this]; rfl
  · rw [hr.cellAt (k * 3 + 1) (by omega), ccells_get ms k 1 e (by decide) hk]; rfl
  · rw [hr.cellAt (k * 3 + 2) (by omega), ccells_get ms k 2 e (by decide) hk]; rfl
theorem iown_set3 {B g n n2 cap i j m : Nat} {u : World} {xs : List Value} {L p q r : Value} {l : List Int} (hr : u.ownsRow B 25 3 (.slice (some ⟨g, 0, none⟩) n cap) n2 xs) (h0 : IOwn B u L l) : IOwn B (((u.setCell ⟨g, i, none⟩ p).setCell ⟨g, j, none⟩ q).setCell ⟨g, m, none⟩ r) L l := by
  refine row_at h0 fun b cs z hc _ => ?_
  have hne : b ≠ g := by
    rintro rfl
    obtain ⟨cs', z', h2⟩ := row_typed hr b rfl
    rw [hc] at h2
    simp at h2
  rw [heap_setCell_other _ _ _ _ (by simpa using hne), heap_setCell_other _ _ _ _ (by simpa using hne), heap_setCell_other _ _ _ _ (by simpa using hne)]
/-- While two are exchanged: all slots are what they are, and the row is as far as the stores have come. -/
structure JR (B : Nat) (W : World) (v : Value) (l : List (Value → World → Prop)) (M : (Nat → Bool) → List Ce) (C : (Nat → Bool) → List Cc) (La : Value) (aa : List Int) (d : Nat → Bool) (f : Nat → Value) (u : World) : Prop where
  up : Below B W u
  none : d 99 = false
  slots : ∀ i, d i = true → ∀ w, atR l i (f i) w
  row : CRow B u v (M d) (C d)
  also : IOwn B u La aa
section
variable {B : Nat} {W : World} {v0 : Value} {l : List (Value → World → Prop)} {M : (Nat → Bool) → List Ce} {C : (Nat → Bool) → List Cc} {La : Value} {aa : List Int} {d : Nat → Bool} {f : Nat → Value} {u u' : World}
theorem JR.at (h : JR B W v0 l M C La aa d f u) (i : Nat) (hd : d i = true) (_ : d 99 = false) : atR l i (f i) u := h.slots i hd u
theorem JR.step (h : JR B W v0 l M C La aa d f u) {i : Nat} {v : Value} (hi : i ≠ 99) (hv : ∀ w, atR l i v w) (hb : Below B W u') (hr : CRow B u' v0 (M (updB d i)) (C (updB d i))) (ha : IOwn B u' La aa) : JR B W v0 l M C La aa (updB d i) (upd f i v) u' := by
  refine ⟨hb, by simp only [updB]; rw [if_neg (Ne.symm hi)]; exact h.none, fun j hj w => ?_, hr, ha⟩
  by_cases hji : j = i
  · subst hji; simp only [upd, if_true]; exact hv w
  · simp only [upd, if_neg hji]
    simp only [updB, if_neg hji] at hj
    exact h.slots j hj w
theorem JR.keep (h : JR B W v0 l M C La aa d f u) {i : Nat} {v : Value} (hi : i ≠ 99) (hv : ∀ w, atR l i v w) (hM : M (updB d i) = M d) (hC : C (updB d i) = C d) : JR B W v0 l M C La aa (updB d i) (upd f i v) u :=
  h.step hi hv h.up (by rw [hM, hC]; exact h.row) h.also
end
theorem row_drew {B : Nat} {u : World} {v : Value} {ms : List Ce} {cs : List Cc} (h : CRow B u v ms cs) : CRow B u.drew v ms cs := h.below ((Below.refl _ _).drew)
set_option maxHeartbeats 1000000 in
theorem own_reverse (v : Value) (ms : List Ce) (cs : List Cc) (B : Nat) (w : World) (h : CRow B w v ms cs) (hz : ms.length ≤ 3518437208900) :
    Calls Try.prog 27 #[v] w fun e w' => e = .returned (.tuple #[]) ∧ CRow B w' v ms.reverse cs.reverse ∧ Below B w w' := by
  obtain ⟨ao, cap, rfl⟩ := row_slice h.row
  have HLC : Hid (ms.length = cs.length) := h.len
  have HR : Hid (CRow B w (.slice ao ms.length cap) ms cs) := h
  clear h
  go_enter Try.func27, Try.ntmps27
  go_wp2_with fail
  go_loopw [2, 3] (fun s2 s3 wr => ∃ k : Nat, 2 * k ≤ ms.length ∧ s2 = .int .i64 k ∧ s3 = .int .i64 ((ms.length : Int) - 1 - k) ∧ Hid (CRow B wr (.slice ao ms.length cap) (turned ms k) (turned cs k)) ∧ Hid (Below B w wr)) (fun i _ _ => ms.length - (intOf i).toNat)
  case atStart => exact ⟨0, by omega, rfl, by simp, by rw [turned_zero, turned_zero]; exact HR.out, Below.refl _ _⟩
  case round =>
    obtain ⟨k, hk, rfl, rfl, HT, HB⟩ := hrel
    by_cases hlt : 2 * k + 1 < ms.length
    · obtain ⟨jn, hjn, hj2⟩ : ∃ jn : Nat, (ms.length : Int) - 1 - k = jn ∧ jn = ms.length - 1 - k := ⟨ms.length - 1 - k, by omega, rfl⟩
      obtain ⟨g, hg⟩ : ∃ g, ao = some ⟨g, 0, none⟩ := by
        rcases HT.out.row.2 with ⟨h0, h1⟩ | ⟨g, cap', cur, h1, _⟩
        · rw [turned_len ms k hk] at h1; omega
        · injection h1 with h2; exact ⟨g, h2⟩
      subst hg
      have hml : (turned ms k).length = ms.length := turned_len ms k hk
      obtain ⟨a, ha⟩ : ∃ a, (turned ms k)[k]? = some a := ⟨_, List.getElem?_eq_getElem (by omega)⟩
      obtain ⟨b, hb⟩ : ∃ b, (turned ms k)[jn]? = some b := ⟨_, List.getElem?_eq_getElem (by omega)⟩
      have hax : (turned cs k)[k]? = some a.x := by rw [← HT.out.xs, List.getElem?_map, ha]; rfl
      have hbx : (turned cs k)[jn]? = some b.x := by rw [← HT.out.xs, List.getElem?_map, hb]; rfl
      have HSM : Hid (((turned ms k).set k b).set jn a = turned ms (k + 1)) := by
        have := turned_step ms k (by omega) a b ha (by rw [← hj2]; exact hb)
        rwa [← hj2] at this
      have HSC : Hid (((turned cs k).set k b.x).set jn a.x = turned cs (k + 1)) := by
        have := turned_step cs k (by rw [← HLC.out]; omega) a.x b.x hax (by rw [← HLC.out, ← hj2]; exact hbx)
        rwa [← HLC.out, ← hj2] at this
      have hla := HT.out.lies a (List.mem_of_getElem? ha)
      have hlb := HT.out.lies b (List.mem_of_getElem? hb)
      have HJN : Hid (jn = ms.length - 1 - k) := hj2
      have hlt2 : (k : Int) < (jn : Int) := by omega
      have hkn : (k : Int) < (ms.length : Int) := by omega
      have hjl : (jn : Int) < (ms.length : Int) := by omega
      rw [hjn]
      clear hj2 hjn
      generalize turned ms k = ms1 at *
      generalize turned cs k = cs1 at *
      obtain ⟨⟨sa, fa, aa⟩, La⟩ := a
      obtain ⟨⟨sb, fb, ab⟩, Lb⟩ := b
      obtain ⟨ao, ac, hsa⟩ := hla.shape
      obtain ⟨bo, bc, hsb⟩ := hlb.shape
      simp only at hsa hsb
      subst hsa
      subst hsb
      have HLA : Hid (IOwn B wr (.slice ao aa.length ac) aa) := hla
      have HA : Hid (ms1[k]? = some ⟨⟨sa, fa, aa⟩, .slice ao aa.length ac⟩) := ha
      have HBE : Hid (ms1[jn]? = some ⟨⟨sb, fb, ab⟩, .slice bo ab.length bc⟩) := hb
      have HML : Hid (ms1.length = ms.length) := hml
      clear ha hb hla hlb hax hbx hml HR
      obtain ⟨wq, hwq⟩ : ∃ x, wr = x := ⟨_, rfl⟩
      subst hwq
      generalize ms.length = n at *
      go_wp2_with fail
      have hl : AllStab [isV (.slice (some ⟨g, 0, none⟩) n cap), isV (.int .i64 k), isV (.slice (some ⟨g, 0, none⟩) n cap), isV (.int .i64 jn), isV (.slice (some ⟨g, 0, none⟩) n cap), isV (.int .i64 jn), isV (.pointer (some ⟨g, jn * 3, none⟩)), isV (.agg #[.int .i64 sb, .int .i64 fb, .slice bo ab.length bc]), isV (.slice (some ⟨g, 0, none⟩) n cap), isV (.int .i64 k), isV (.pointer (some ⟨g, k * 3, none⟩)), isV (.agg #[.int .i64 sa, .int .i64 fa, .slice ao aa.length ac]), isV (.pointer (some ⟨g, k * 3, none⟩)), anyV, isV (.pointer (some ⟨g, jn * 3, none⟩)), anyV] := ⟨stab_is _, stab_is _, stab_is _, stab_is _, stab_is _, stab_is _, stab_is _, stab_is _, stab_is _, stab_is _, stab_is _, stab_is _, stab_is _, stab_any, stab_is _, stab_any, trivial⟩
      refine wp_joint (JR B wr (.slice (some ⟨g, 0, none⟩) n cap) [isV (.slice (some ⟨g, 0, none⟩) n cap), isV (.int .i64 k), isV (.slice (some ⟨g, 0, none⟩) n cap), isV (.int .i64 jn), isV (.slice (some ⟨g, 0, none⟩) n cap), isV (.int .i64 jn), isV (.pointer (some ⟨g, jn * 3, none⟩)), isV (.agg #[.int .i64 sb, .int .i64 fb, .slice bo ab.length bc]), isV (.slice (some ⟨g, 0, none⟩) n cap), isV (.int .i64 k), isV (.pointer (some ⟨g, k * 3, none⟩)), isV (.agg #[.int .i64 sa, .int .i64 fa, .slice ao aa.length ac]), isV (.pointer (some ⟨g, k * 3, none⟩)), anyV, isV (.pointer (some ⟨g, jn * 3, none⟩)), anyV] (fun d => if d 15 = true then (ms1.set k ⟨⟨sb, fb, ab⟩, .slice bo ab.length bc⟩).set jn ⟨⟨sa, fa, aa⟩, .slice ao aa.length ac⟩ else if d 13 = true then ms1.set k ⟨⟨sb, fb, ab⟩, .slice bo ab.length bc⟩ else ms1) (fun d => if d 15 = true then (cs1.set k ⟨sb, fb, ab⟩).set jn ⟨sa, fa, aa⟩ else if d 13 = true then cs1.set k ⟨sb, fb, ab⟩ else cs1) (.slice ao aa.length ac) aa) (by kernel_rfl) (by kernel_rfl) (by kernel_rfl) (fun f => ⟨(Below.refl _ _).drew, rfl, (fun i h => by cases h), row_drew HT.out, HLA.out.below ((Below.refl _ _).drew)⟩) ?_ ?_
      · refine stepsOK5_cons (fun f d u hJ hn hd hno K hK => ?_) (stepsOK5_cons (fun f d u hJ hn hd hno K hK => ?_) (stepsOK5_cons (fun f d u hJ hn hd hno K hK => ?_) (stepsOK5_cons (fun f d u hJ hn hd hno K hK => ?_) (stepsOK5_cons (fun f d u hJ hn hd hno K hK => ?_) (stepsOK5_cons (fun f d u hJ hn hd hno K hK => ?_) (stepsOK5_cons (fun f d u hJ hn hd hno K hK => ?_) (stepsOK5_cons (fun f d u hJ hn hd hno K hK => ?_) (stepsOK5_cons (fun f d u hJ hn hd hno K hK => ?_) (stepsOK5_cons (fun f d u hJ hn hd hno K hK => ?_) (stepsOK5_cons (fun f d u hJ hn hd hno K hK => ?_) (stepsOK5_cons (fun f d u hJ hn hd hno K hK => ?_) (stepsOK5_cons (fun f d u hJ hn hd hno K hK => ?_) (stepsOK5_cons (fun f d u hJ hn hd hno K hK => ?_) (stepsOK5_cons (fun f d u hJ hn hd hno K hK => ?_) (stepsOK5_cons (fun f d u hJ hn hd hno K hK => ?_) stepsOK5_nil)))))))))))))))
        · refine wanted_on rfl ?_
          simp only [putAll, Act.put, List.setIfInBounds_toArray, List.set_cons_zero, List.set_cons_succ] at hK ⊢
          go_simp
          exact hK _ _ _ rfl (hJ.keep (by decide) (fun _ => rfl) rfl rfl)
        · refine wanted_on rfl ?_
          simp only [putAll, Act.put, List.setIfInBounds_toArray, List.set_cons_zero, List.set_cons_succ] at hK ⊢
          go_simp
          exact hK _ _ _ rfl (hJ.keep (by decide) (fun _ => rfl) rfl rfl)
        · refine wanted_on rfl ?_
          simp only [putAll, Act.put, List.setIfInBounds_toArray, List.set_cons_zero, List.set_cons_succ] at hK ⊢
          go_simp
          exact hK _ _ _ rfl (hJ.keep (by decide) (fun _ => rfl) rfl rfl)
        · refine wanted_on rfl ?_
          simp only [putAll, Act.put, List.setIfInBounds_toArray, List.set_cons_zero, List.set_cons_succ] at hK ⊢
          go_simp
          exact hK _ _ _ rfl (hJ.keep (by decide) (fun _ => rfl) rfl rfl)
        · refine wanted_on rfl ?_
          simp only [putAll, Act.put, List.setIfInBounds_toArray, List.set_cons_zero, List.set_cons_succ] at hK ⊢
          go_simp
          exact hK _ _ _ rfl (hJ.keep (by decide) (fun _ => rfl) rfl rfl)
        · refine wanted_on rfl ?_
          simp only [putAll, Act.put, List.setIfInBounds_toArray, List.set_cons_zero, List.set_cons_succ] at hK ⊢
          go_simp
          exact hK _ _ _ rfl (hJ.keep (by decide) (fun _ => rfl) rfl rfl)
        · have e4 : f 4 = (.slice (some ⟨g, 0, none⟩) n cap) := hJ.at 4 (hd 4 (by kernel_rfl)) hJ.none
          have e5 : f 5 = (.int .i64 jn) := hJ.at 5 (hd 5 (by kernel_rfl)) hJ.none
          refine wanted_on rfl ?_
          simp only [putAll, Act.put, List.setIfInBounds_toArray, List.set_cons_zero, List.set_cons_succ, e4, e5] at hK ⊢
          go_simp
          exact hK _ _ _ rfl (hJ.keep (by decide) (fun _ => rfl) rfl rfl)
        · have e6 : f 6 = (.pointer (some ⟨g, jn * 3, none⟩)) := hJ.at 6 (hd 6 (by kernel_rfl)) hJ.none
          have d15 : d 15 = false := (hno 15 (by kernel_rfl))
          have d13 : d 13 = false := (hno 13 (by kernel_rfl))
          have hr := hJ.row
          simp only [d15, d13, if_true, if_false, Bool.false_eq_true] at hr
          obtain ⟨⟨c0, c1, c2⟩, f0, f1, f2⟩ := hr.cells HML.out HBE.out
          refine wanted_on rfl ?_
          simp only [putAll, Act.put, List.setIfInBounds_toArray, List.set_cons_zero, List.set_cons_succ, e6] at hK ⊢
          go_simp
          exact hK _ _ _ rfl (hJ.keep (by decide) (fun _ => rfl) rfl rfl)
        · refine wanted_on rfl ?_
          simp only [putAll, Act.put, List.setIfInBounds_toArray, List.set_cons_zero, List.set_cons_succ] at hK ⊢
          go_simp
          exact hK _ _ _ rfl (hJ.keep (by decide) (fun _ => rfl) rfl rfl)
        · refine wanted_on rfl ?_
          simp only [putAll, Act.put, List.setIfInBounds_toArray, List.set_cons_zero, List.set_cons_succ] at hK ⊢
          go_simp
          exact hK _ _ _ rfl (hJ.keep (by decide) (fun _ => rfl) rfl rfl)
        · have e8 : f 8 = (.slice (some ⟨g, 0, none⟩) n cap) := hJ.at 8 (hd 8 (by kernel_rfl)) hJ.none
          have e9 : f 9 = (.int .i64 k) := hJ.at 9 (hd 9 (by kernel_rfl)) hJ.none
          refine wanted_on rfl ?_
          simp only [putAll, Act.put, List.setIfInBounds_toArray, List.set_cons_zero, List.set_cons_succ, e8, e9] at hK ⊢
          go_simp
          exact hK _ _ _ rfl (hJ.keep (by decide) (fun _ => rfl) rfl rfl)
        · have e10 : f 10 = (.pointer (some ⟨g, k * 3, none⟩)) := hJ.at 10 (hd 10 (by kernel_rfl)) hJ.none
          have d15 : d 15 = false := (hno 15 (by kernel_rfl))
          have d13 : d 13 = false := (hno 13 (by kernel_rfl))
          have hr := hJ.row
          simp only [d15, d13, if_true, if_false, Bool.false_eq_true] at hr
          obtain ⟨⟨c0, c1, c2⟩, f0, f1, f2⟩ := hr.cells HML.out HA.out
          refine wanted_on rfl ?_
          simp only [putAll, Act.put, List.setIfInBounds_toArray, List.set_cons_zero, List.set_cons_succ, e10] at hK ⊢
          go_simp
          exact hK _ _ _ rfl (hJ.keep (by decide) (fun _ => rfl) rfl rfl)
        · have e0 : f 0 = (.slice (some ⟨g, 0, none⟩) n cap) := hJ.at 0 (hd 0 (by kernel_rfl)) hJ.none
          have e1 : f 1 = (.int .i64 k) := hJ.at 1 (hd 1 (by kernel_rfl)) hJ.none
          refine wanted_on rfl ?_
          simp only [putAll, Act.put, List.setIfInBounds_toArray, List.set_cons_zero, List.set_cons_succ, e0, e1] at hK ⊢
          go_simp
          exact hK _ _ _ rfl (hJ.keep (by decide) (fun _ => rfl) rfl rfl)
        · have e7 : f 7 = (.agg #[.int .i64 sb, .int .i64 fb, .slice bo ab.length bc]) := hJ.at 7 (hd 7 (by kernel_rfl)) hJ.none
          have e12 : f 12 = (.pointer (some ⟨g, k * 3, none⟩)) := hJ.at 12 (hd 12 (by kernel_rfl)) hJ.none
          have d15 : d 15 = false := (hno 15 (by kernel_rfl))
          have d13 : d 13 = false := hn
          have hr := hJ.row
          simp only [d15, d13, if_true, if_false, Bool.false_eq_true] at hr
          obtain ⟨⟨c0, c1, c2⟩, f0, f1, f2⟩ := hr.cells HML.out HA.out
          have hp := hr.put (k := k) (c := ⟨sb, fb, ab⟩) (L := .slice bo ab.length bc) (by rw [HML.out]; omega) (hr.lies _ (List.mem_of_getElem? HBE.out)) HML.out
          refine wanted_on rfl ?_
          simp only [putAll, Act.put, List.setIfInBounds_toArray, List.set_cons_zero, List.set_cons_succ, e7, e12] at hK ⊢
          go_simp
          have hgB := (hr.row.lt _ rfl).1
          have hUP := ((hJ.up.setCell (p := ⟨g, k * 3, none⟩) hgB (.int .i64 sb)).setCell (p := ⟨g, k * 3 + 1, none⟩) hgB (.int .i64 fb)).setCell (p := ⟨g, k * 3 + 2, none⟩) hgB (.slice bo ab.length bc)
          refine hK _ (f 13) _ rfl (hJ.step (i := 13) (v := f 13) (by decide) (fun _ => True.intro) hUP ?_ (iown_set3 hr.row hJ.also))
          show CRow B _ _ (if updB d 13 15 = true then _ else if updB d 13 13 = true then _ else _) (if updB d 13 15 = true then _ else if updB d 13 13 = true then _ else _)
          rw [if_neg (by simp [updB, d15]), if_pos (by simp [updB]), if_neg (by simp [updB, d15]), if_pos (by simp [updB])]
          exact hp
        · have e2 : f 2 = (.slice (some ⟨g, 0, none⟩) n cap) := hJ.at 2 (hd 2 (by kernel_rfl)) hJ.none
          have e3 : f 3 = (.int .i64 jn) := hJ.at 3 (hd 3 (by kernel_rfl)) hJ.none
          refine wanted_on rfl ?_
          simp only [putAll, Act.put, List.setIfInBounds_toArray, List.set_cons_zero, List.set_cons_succ, e2, e3] at hK ⊢
          go_simp
          exact hK _ _ _ rfl (hJ.keep (by decide) (fun _ => rfl) rfl rfl)
        · have e11 : f 11 = (.agg #[.int .i64 sa, .int .i64 fa, .slice ao aa.length ac]) := hJ.at 11 (hd 11 (by kernel_rfl)) hJ.none
          have e14 : f 14 = (.pointer (some ⟨g, jn * 3, none⟩)) := hJ.at 14 (hd 14 (by kernel_rfl)) hJ.none
          have hla2 := hJ.also
          have d15 : d 15 = false := hn
          have d13 : d 13 = true := hd 13 (by kernel_rfl)
          have hr := hJ.row
          simp only [d15, d13, if_true, if_false, Bool.false_eq_true] at hr
          have hbe : (ms1.set k ⟨⟨sb, fb, ab⟩, .slice bo ab.length bc⟩)[jn]? = some ⟨⟨sb, fb, ab⟩, .slice bo ab.length bc⟩ := by rw [List.getElem?_set_ne (by omega)]; exact HBE.out
          have hml2 : (ms1.set k ⟨⟨sb, fb, ab⟩, .slice bo ab.length bc⟩).length = n := by rw [List.length_set]; exact HML.out
          obtain ⟨⟨c0, c1, c2⟩, f0, f1, f2⟩ := hr.cells hml2 hbe
          have hp := hr.put (k := jn) (c := ⟨sa, fa, aa⟩) (L := .slice ao aa.length ac) (by rw [hml2]; omega) hla2 hml2
          refine wanted_on rfl ?_
          simp only [putAll, Act.put, List.setIfInBounds_toArray, List.set_cons_zero, List.set_cons_succ, e11, e14] at hK ⊢
          go_simp
          have hgB := (hr.row.lt _ rfl).1
          have hUP := ((hJ.up.setCell (p := ⟨g, jn * 3, none⟩) hgB (.int .i64 sa)).setCell (p := ⟨g, jn * 3 + 1, none⟩) hgB (.int .i64 fa)).setCell (p := ⟨g, jn * 3 + 2, none⟩) hgB (.slice ao aa.length ac)
          refine hK _ (f 15) _ rfl (hJ.step (i := 15) (v := f 15) (by decide) (fun _ => True.intro) hUP ?_ (iown_set3 hr.row hJ.also))
          show CRow B _ _ (if updB d 15 15 = true then _ else _) (if updB d 15 15 = true then _ else _)
          rw [if_pos (by simp [updB]), if_pos (by simp [updB])]
          exact hp
      · intro f d u hJ hall
        have hr := hJ.row
        have d15 : d 15 = true := hall 15 (by decide)
        simp only [d15, if_true] at hr
        rw [HSM.out, HSC.out] at hr
        have HR1 : Hid _ := hr
        have HU : Hid _ := hJ.up
        simp only [putAll, Act.put, List.setIfInBounds_toArray, List.set_cons_zero, List.set_cons_succ, Nat.reduceAdd]
        clear hr hJ hall hl
        go_wp2_with fail
        go_roundw
        case rel => exact ⟨k + 1, by omega, by go_num, by have := HJN.out; congr 1; omega, HR1.out, HB.out.trans HU.out⟩
        case measure => simp [intOf]; omega
    · have hlt2 : ¬ (k : Int) < (ms.length : Int) - 1 - (k : Int) := by omega
      have HE1 : Hid (turned ms k = ms.reverse) := turned_end ms k hk (by omega)
      have HE2 : Hid (turned cs k = cs.reverse) := turned_end cs k (by rw [← HLC.out]; exact hk) (by rw [← HLC.out]; omega)
      go_wp2_with fail
      go_end0
      exact ⟨rfl, by have := HT.out; rw [HE1.out, HE2.out] at this; exact this, HB.out⟩
end Go.Proofs.Ytiaoidbhdkldlab
