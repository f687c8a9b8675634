/-
  For every list of panics that comes in and is of bulk at most 1048576, the crash has just one line for each: the law's function returns true; the library's tables hold at the start what the program's text lays (the card ties them).
-/
import Derived.Test.YtncjaohiimenaabDoorRrows
import Derived.Stop.LaidErr
import Derived.Test.YtncjaohiimenaabDoorRpcame
import Derived.JoinedCond
import Derived.Test.YtncjaohiimenaabDoorCards
import Derived.Test.YtncjaohiimenaabDoorTie
import Derived.Deep.DeepHandedRow
import Derived.Lib.LaidTab
import Derived.SizedLaws
import Derived.Deep.DeepWitnessRowRef
namespace Go.Proofs.YtncjaohiimenaabDoor.reportRows
open Go.ChangeShapes Go.WideShapes Go.ChangeAt Go.RowKit
open Go.WideMaps Go.WideElems
open Go.ChangeMaps (open_string shut_string)
set_option linter.unusedVariables false
set_option maxRecDepth 100000

theorem own : ownKnob Tryd.prog.godebug = none := by kernel_rfl

def onePe : Pe := ⟨0, ⟨1, 3, ⟨#[]⟩, []⟩, .slice none 0 0, false, false⟩
theorem one_is : crashB [onePe] = ⟨#[112, 97, 110, 105, 99, 58, 32, 51, 10]⟩ := by kernel_rfl
theorem one_in : PsIn [onePe] := ⟨fun e he => by simp at he; subst he; exact ⟨⟨(by kernel_rfl : (Lit.int .i64 1).wf = true), (by kernel_rfl : (Lit.int .i64 3).wf = true), by decide, (fun i hi => by cases hi), by decide⟩, by decide, by decide⟩, by decide⟩
theorem one_lies (w u : World) (g : Nat) (hg : g = w.heap.size) (h : Below (w.alloc (.cells #[.int .i64 0, .int .i64 1, .int .i64 3, .string ⟨#[]⟩, .slice none 0 0, .bool false, .bool false] 27)).heap.size (w.alloc (.cells #[.int .i64 0, .int .i64 1, .int .i64 3, .string ⟨#[]⟩, .slice none 0 0, .bool false, .bool false] 27)) u) : PsLies u (.slice (some ⟨g, 0, none⟩) 1 1) [onePe] := by
  subst hg
  have h1 : (w.alloc (.cells #[.int .i64 0, .int .i64 1, .int .i64 3, .string ⟨#[]⟩, .slice none 0 0, .bool false, .bool false] 27)).ownsRow 0 27 7 (.slice (some ⟨w.heap.size, 0, none⟩) 1 1) 1 (Pe.cells onePe) := World.ownsRow_lit w #[.int .i64 0, .int .i64 1, .int .i64 3, .string ⟨#[]⟩, .slice none 0 0, .bool false, .bool false] 1 (Nat.zero_le _) (by decide) rfl
  have h2 : (w.alloc (.cells #[.int .i64 0, .int .i64 1, .int .i64 3, .string ⟨#[]⟩, .slice none 0 0, .bool false, .bool false] 27)).ownsRow 0 27 7 (.slice (some ⟨w.heap.size, 0, none⟩) 1 1) [onePe].length (rc Pe.cells [onePe]) := by rw [rc_one]; exact h1
  exact ⟨lies_own Pe.len (row_below h2 h), fun e he => by simp at he; subst he; exact .inl ⟨rfl, rfl⟩⟩
theorem pow_tab : Lib.pow10Tab = [1, 10, 100, 1000, 10000, 100000, 1000000, 10000000, 100000000, 1000000000, 10000000000, 100000000000, 1000000000000, 10000000000000, 100000000000000, 1000000000000000, 10000000000000000, 100000000000000000, 1000000000000000000, 10000000000000000000] := by decide
theorem pow_of {W : World} (h : laidMetH Tryd.prog Rows.reportRowsRow.laid W) : Pow W := by
  have h0 : laidMet Tryd.prog Rows.reportRowsRow.laid W := h
  unfold Pow
  rw [pow_tab]
  exact Lib.tabIs_of_head Tryd.gPow (by kernel_rfl) Tryd.underlying105 Tryd.underlying93 (by kernel_rfl) (by kernel_rfl) h0.tail.tail

set_option maxHeartbeats 8000000 in
theorem walk (v0 : Value) (es : List Pe) (w : World) (hC : PsLies w v0 es) (hE : PsIn es) (hp : Pow w) :
    Calls Tryd.prog 4 #[v0] w fun e w' => e = .returned (.bool true) ∧ Below w.heap.size w w' := by
  obtain ⟨vo, vc, hsh⟩ := hC.row.shape
  subst hsh
  have HSRC := Hid.mk' hC
  have HIN := Hid.mk' hE
  obtain ⟨n, hn1⟩ : ∃ n, n = es.length := ⟨_, rfl⟩
  have HLEN : Hid (n = es.length) := hn1
  have hnb : n ≤ 1048576 := by have := hE.size; omega
  have HCR : Hid (∀ v ms u, PsLies u v ms → ms.map Pe.key = es.map Pe.key → Below w.heap.size w u → Calls Tryd.prog 7 #[v] u fun e w' => e = .returned (.string (crashB es)) ∧ Below u.heap.size u w') := fun v ms u h1 h2 hu => by
    have := own_crash v ms u h1 (hE.key h2) (hp.below hu)
    rwa [crashB_key h2] at this
  have HON : Hid (∀ w0 u, Below w.heap.size w w0 → Below (w0.alloc (.cells #[.int .i64 0, .int .i64 1, .int .i64 3, .string ⟨#[]⟩, .slice none 0 0, .bool false, .bool false] 27)).heap.size (w0.alloc (.cells #[.int .i64 0, .int .i64 1, .int .i64 3, .string ⟨#[]⟩, .slice none 0 0, .bool false, .bool false] 27)) u → Calls Tryd.prog 7 #[.slice (some ⟨w0.heap.size, 0, none⟩) 1 1] u fun e w' => e = .returned (.string ⟨#[112, 97, 110, 105, 99, 58, 32, 51, 10]⟩) ∧ Below u.heap.size u w') := fun w0 u h0 hu => by
    rw [← one_is]
    exact own_crash _ [onePe] u (one_lies w0 u _ rfl hu) one_in (hp.below (h0.trans ((((Below.refl _ _).alloc (Nat.le_refl _) _).trans (hu.mono (by simp))).mono h0.size)))
  have HCN : Hid (cnt (crashB es).data.toList = n) := by show cnt (crashL es es.length) = n; rw [hn1]; exact cnt_crash es _ (Nat.le_refl _)
  have HLA : Hid (0 < n → ∃ a, (crashB es).data.toList = a ++ [10]) := fun h => last_crash es (by omega)
  have HL0 : Hid (n = 0 → (crashB es).data.toList = []) := fun h => by show crashL es es.length = []; rw [← hn1, h]; rfl
  have HSZ : Hid ((crashB es).size ≤ 2199122968600) := by
    have := crashL_le hE es.length
    have := hE.size
    show (crashL es es.length).toArray.size ≤ _
    rw [List.size_toArray]; omega
  generalize crashB es = S at *
  rw [← hn1] at HSRC ⊢
  clear hC hE hp hn1
  go_enter Tryd.func4, Tryd.ntmps4
  go_wp2_with fail
  go_loopw [3, 4] (fun s3 s4 wr => ∃ (k : Nat) (ms : List Pe), k ≤ n ∧ s4 = .int .i64 k ∧ Hid (ms.length = k) ∧ Hid (ms.map Pe.key = (es.take k).map Pe.key) ∧ Hid (PRow w.heap.size wr s3 ms) ∧ Hid (Below w.heap.size w wr)) (fun _ i _ => n - (intOf i).toNat)
  case atStart => exact ⟨0, [], Nat.zero_le _, rfl, rfl, by simp [Hid], PRow.nil _ _, Below.refl _ _⟩
  case round =>
    obtain ⟨k, ms, hk, rfl, HEL, HEM, HROW, HB⟩ := hrel
    obtain ⟨wq, hwq⟩ : ∃ x, wr = x := ⟨_, rfl⟩
    subst hwq
    obtain ⟨so, sc, hs3⟩ := row_slice HROW.out.row
    rw [HEL.out] at hs3
    subst hs3
    by_cases hlt : k < n
    · have hlti : (k : Int) < (n : Int) := by omega
      obtain ⟨⟨ser, ⟨kd, nn, ss, ll⟩, L, rc0, ab0⟩, he⟩ : ∃ e, es[k]? = some e := ⟨es[k]'(by rw [← HLEN.out]; exact hlt), List.getElem?_eq_getElem _⟩
      obtain ⟨b, off, rfl, hx⟩ := HSRC.out.at he
      obtain ⟨⟨c0, c1, c2, c3, c4, c5, c6⟩, hll⟩ := hx wr HB.out
      have HE := Hid.mk' he
      obtain ⟨lo, lc, hL⟩ := hll.shape
      simp only at hL c0 c1 c2 c3 c4 c5 c6 hll
      subst hL
      have HOWN : Hid (∀ u, Below wr.heap.size wr u → Calls Tryd.prog 6 #[.agg #[.int .i64 kd, .int .i64 nn, .string ss, .slice lo ll.length lc]] u fun x w' => ∃ L', x = .returned (vval ⟨kd, nn, ss, ll⟩ L') ∧ w'.ownsRow u.heap.size 3 1 L' ll.length (ll.map (Value.int .i64)) ∧ Below u.heap.size u w') := fun u hu =>
        own_own3 ⟨kd, nn, ss, ll⟩ _ u (HIN.out.each _ (List.mem_of_getElem? HE.out)).1 (hll.below hu (Nat.le_refl _))
      clear hll hx he
      go_wp2_with fail
      have HBXW : Hid (∀ u, Below (wr.alloc (.cells #[.int .i64 ser, .int .i64 kd, .int .i64 nn, .string ss, .slice lo ll.length lc, .bool rc0, .bool ab0] 27)).heap.size (wr.alloc (.cells #[.int .i64 ser, .int .i64 kd, .int .i64 nn, .string ss, .slice lo ll.length lc, .bool rc0, .bool ab0] 27)) u → u.heap[wr.heap.size]? = some (.cells #[.int .i64 ser, .int .i64 kd, .int .i64 nn, .string ss, .slice lo ll.length lc, .bool rc0, .bool ab0] 27 (0, 0))) := fun u hu => box_stays hu
      clear c0 c1 c2 c3 c4 c5 c6
      refine Calls.mono (HOWN.out _ show_below) ?_
      rintro x w1 ⟨L1, rfl, ho1, hb1⟩
      obtain ⟨lo1, lc1, hL1⟩ := row_slice ho1
      subst hL1
      unfold vval
      have hbx := HBXW.out w1 hb1
      obtain ⟨⟨d0, d1, d2, d3, d4, d5, d6⟩, ⟨f0, f1, f2, f3, f4, f5, f6⟩⟩ := box7 hbx
      have hup := below_up hb1
      obtain ⟨u1, hu1, hg1, hl1, hsz1, hot1⟩ := set1234 hbx (.int .i64 kd) (.int .i64 nn) (.string ss) (.slice lo1 ll.length lc1) hup (Nat.le_refl _)
      have HO1 : Hid (u1.ownsRow w.heap.size 3 1 (.slice lo1 ll.length lc1) ll.length (ll.map (Value.int .i64))) := by
        refine row_up (row_far ho1 hbx (by decide) (fun b hb _ => hot1 b hb)) ?_
        have := HB.out.size; simp; omega
      have hsz : wr.heap.size < w1.heap.size := by have := hb1.size; simp at this; omega
      have HU1 := Hid.mk' hu1
      clear ho1 hb1 hot1 HBXW hu1 hbx hup
      have hal : Below u1.heap.size u1 (u1.alloc (.cells #[.int .i64 ser, .int .i64 kd, .int .i64 nn, .string ss, .slice lo1 ll.length lc1, .bool rc0, .bool ab0] 27)) := (Below.refl _ _).alloc (Nat.le_refl _) _
      have HBZ : Hid (Below w.heap.size w u1) := HB.out.trans (hl1.mono HB.out.size)
      have HPZ : Hid (PRow w.heap.size (u1.alloc (.cells #[.int .i64 ser, .int .i64 kd, .int .i64 nn, .string ss, .slice lo1 ll.length lc1, .bool rc0, .bool ab0] 27)) (.slice so k sc) ms) := (HROW.out.below hl1).below hal
      have HOZ : Hid ((u1.alloc (.cells #[.int .i64 ser, .int .i64 kd, .int .i64 nn, .string ss, .slice lo1 ll.length lc1, .bool rc0, .bool ab0] 27)).ownsRow w.heap.size 3 1 (.slice lo1 ll.length lc1) ll.length (ll.map (Value.int .i64))) := row_below HO1.out hal
      have HLZ : Hid ((u1.alloc (.cells #[.int .i64 ser, .int .i64 kd, .int .i64 nn, .string ss, .slice lo1 ll.length lc1, .bool rc0, .bool ab0] 27)).ownsRow w.heap.size 27 7 (.slice (some ⟨w1.heap.size, 0, none⟩) 1 1) 1 (Pe.cells ⟨ser, ⟨kd, nn, ss, ll⟩, .slice lo1 ll.length lc1, rc0, ab0⟩)) := by rw [← hsz1]; exact World.ownsRow_lit u1 #[.int .i64 ser, .int .i64 kd, .int .i64 nn, .string ss, .slice lo1 ll.length lc1, .bool rc0, .bool ab0] 1 HBZ.out.size (by decide) rfl
      have HBAL : Hid (Below w.heap.size w (u1.alloc (.cells #[.int .i64 ser, .int .i64 kd, .int .i64 nn, .string ss, .slice lo1 ll.length lc1, .bool rc0, .bool ab0] 27))) := HBZ.out.trans (hal.mono HBZ.out.size)
      have HTAKE : Hid ((ms ++ [(⟨ser, ⟨kd, nn, ss, ll⟩, .slice lo1 ll.length lc1, rc0, ab0⟩ : Pe)]).map Pe.key = (es.take (k + 1)).map Pe.key) := by show _ = _; rw [List.map_append, HEM.out, List.take_add_one, HE.out]; rw [List.map_append]; rfl
      clear hg1 hl1 hal hsz1
      go_wp2_with (at_builtin; rw [← HU1.out]; refine gappL rfl _ _ Pe.len Tryd.infoPnR rfl (by decide) Tryd.underlying22 rfl rfl rfl (by have := HPZ.out.row; rw [HEL.out]; rw [HEL.out] at this; exact this) HLZ.out (Pe.one rfl) HBAL.out.size (by rw [HEL.out]; omega) (by decide) ?_; intro v2 u5 hr hg hb5; have HP5 := Hid.mk' (HPZ.out.push hg hr HOZ.out); obtain ⟨ao, cap, hv2⟩ := row_slice hr; subst hv2; have HB5 : Hid (Below w.heap.size w u5) := HBAL.out.trans hb5; clear hr hg hb5)
      go_roundw
      case rel => exact ⟨k + 1, _, by omega, by go_num, (by show _ = _; rw [List.length_append, HEL.out]; rfl), HTAKE.out, (by have := HP5.out; simp only [List.length_append, List.length_singleton] at this; exact this), HB5.out⟩
      case measure => simp [intOf]; omega
    · have hke : n = k := by omega
      have hlti : ¬ (k : Int) < (n : Int) := by omega
      have HALL : Hid (ms.map Pe.key = es.map Pe.key) := by show _ = _; rw [HEM.out, List.take_of_length_le (by have := HLEN.out; omega)]
      subst hke
      clear hk hlt hlti
      have hlti : ¬ (n : Int) < (n : Int) := by omega
      go_wp2_with fail
      refine Calls.mono (HCR.out _ ms _ HROW.out.lies HALL.out HB.out) ?_
      rintro e w2 ⟨rfl, hb2⟩
      have HB2 : Hid (Below w.heap.size w w2) := HB.out.trans (hb2.mono HB.out.size)
      have HG : Hid (∀ (k : Nat) (h : k < S.size), S.data.toList[k]? = some S[k]) := fun k h => by rw [get_list S k h, List.getElem?_eq_getElem]
      have HZ : Hid (S.data.toList.length = S.size) := bsize_list S
      have hsz := HSZ.out
      clear hb2
      generalize hlq : S.data.toList = l at *
      have HLQ := Hid.mk' hlq
      clear hlq
      go_wp2_with fail
      go_loopw [7, 8] (fun s7 s8 wr => ∃ (k : Nat), k ≤ S.size ∧ s8 = .int .i64 k ∧ s7 = .int .i64 (cnt (l.take k) : Nat) ∧ Hid (Below w.heap.size w wr)) (fun _ i _ => S.size - (intOf i).toNat)
      case atStart => exact ⟨0, Nat.zero_le _, rfl, by simp [cnt], HB2.out⟩
      case round =>
        obtain ⟨k, hk, rfl, rfl, HBk⟩ := hrel
        obtain ⟨wk, hwk⟩ : ∃ x, x = wr := ⟨_, rfl⟩
        subst hwk
        have hck : cnt (l.take k) ≤ k := by have := cnt_le (l.take k); simp at this; omega
        by_cases hkl : k < S.size
        · have hkli : (k : Int) < (S.size : Int) := by omega
          have HCT := Hid.mk' (cnt_take (HG.out k hkl))
          by_cases h10 : (S[k].toNat : Int) = 10
          · have h10b : ((S[k].toNat : Int) == 10) = true := by simpa using h10
            have HC1 : Hid (cnt (l.take (k + 1)) = cnt (l.take k) + 1) := by show _ = _; rw [HCT.out, if_pos h10]
            clear h10
            go_wp2_with fail
            go_roundw
            case rel => exact ⟨k + 1, by omega, by go_num, by rw [HC1.out]; go_num, HBk.out⟩
            case measure => simp [intOf]; omega
          · have h10b : ((S[k].toNat : Int) == 10) = false := by simpa using h10
            have HC1 : Hid (cnt (l.take (k + 1)) = cnt (l.take k)) := by show _ = _; rw [HCT.out, if_neg h10]; rfl
            clear h10
            go_wp2_with fail
            go_roundw
            case rel => exact ⟨k + 1, by omega, by go_num, by rw [HC1.out], HBk.out⟩
            case measure => simp [intOf]; omega
        · have hke : k = S.size := by omega
          have HCF : Hid (cnt (l.take k) = n) := by show _ = _; rw [List.take_of_length_le (by have := HZ.out; omega)]; exact HCN.out
          rw [HCF.out]
          clear hck
          by_cases hn0 : n = 0
          · have hl0 := HL0.out hn0
            have hS : S = ⟨#[]⟩ := by
              have h1 := str_of HLQ.out
              rw [hl0] at h1
              exact h1
            subst hn0
            clear HG HZ HSZ hsz HLA HL0 HCN HLQ HCF hl0 hkl hke hk
            subst hS
            go_wp2_with fail
            refine Calls.mono (HON.out _ _ HBk.out (Below.refl _ _)) ?_
            rintro e w3 ⟨rfl, hb3⟩
            have HB3 : Hid (Below w.heap.size w w3) := HBk.out.trans ((((Below.refl _ _).alloc (Nat.le_refl _) _).trans (hb3.mono (by simp))).mono HBk.out.size)
            clear hb3
            go_wp2_with fail
            all_goals go_ret
            exact ⟨rfl, HB3.out⟩
          · obtain ⟨z, HZ1, hzl, h10b, hne⟩ : ∃ z, Hid (S.size = z + 1) ∧ ∃ hzl : z < S.size, (((S[z]'hzl).toNat : Int) == 10) = true ∧ (S.toList == ([] : List UInt8)) = false := by
              obtain ⟨a, ha⟩ := HLA.out (by omega)
              have hz1 : S.size = a.length + 1 := by have h1 := HZ.out; rw [ha] at h1; simpa using h1.symm
              refine ⟨a.length, hz1, by omega, ?_, ?_⟩
              · have h1 := HG.out a.length (by omega)
                rw [ha, List.getElem?_append_right (Nat.le_refl _), Nat.sub_self] at h1
                have h2 : (10 : UInt8) = S[a.length]'(by omega) := by simpa using h1
                rw [← h2]; rfl
              · rw [ByteArray.toList_eq, HLQ.out, ha]
                simp
            have hzi : (S.size : Int) - 1 = (z : Int) := by have := HZ1.out; omega
            have hz0 : (0 : Int) ≤ (z : Int) := by omega
            have hkl2 : ¬ (k : Int) < (S.size : Int) := by omega
            clear HG HZ HSZ HLA HL0 HCN HLQ HCF hkl hke hk hn0
            go_wp2_with fail
            refine Calls.mono (HON.out _ _ HBk.out (Below.refl _ _)) ?_
            rintro e w3 ⟨rfl, hb3⟩
            have HB3 : Hid (Below w.heap.size w w3) := HBk.out.trans ((((Below.refl _ _).alloc (Nat.le_refl _) _).trans (hb3.mono (by simp))).mono HBk.out.size)
            clear hb3
            go_wp2_with fail
            all_goals go_ret
            exact ⟨rfl, HB3.out⟩

theorem contract (H : Type) (enc : TypeId × Value → H) (W : World) (base : Nat) (args : Array Value) (ds gs : List (DataW H)) (before : List MemPlace)
    (hval : ∀ (j : Nat) t v, Tryd.f4.params[j]? = some t → args[j]? = some v → Value.okWide Tryd.prog W .any base t v)
    (hW : DataW.Whole enc Tryd.prog Tryd.f4.params.toList Rows.reportRowsSpec.vars false W args.toList ds gs before)
    (hk : Rows.uptoSmall H (ds ++ gs) = true) (hL : laidMetH Tryd.prog Rows.reportRowsRow.laid W) :
    Calls Tryd.prog 4 args W fun e W' => ∃ v, e = .returned v ∧ Rows.reportRowsSpec.post enc Tryd.prog Tryd.f4 false true false false W args v W' := by
  have hW' := hW
  obtain ⟨p, q, hA0, hV, rfl, hfz, hnd⟩ := hW
  have hA : DataW.TrodAll enc Tryd.prog W 0 (fun _ => true) true Tryd.f4.params.toList args.toList ds p := hA0
  rw [Tryd.params4] at hA hval
  obtain ⟨v0, vs0, d0, ds0, p0, q0, hargs, rfl, rfl, h0, r0⟩ := trodAll_cons hA
  obtain ⟨rfl, rfl, rfl⟩ := trodAll_nil r0
  obtain rfl : args = #[v0] := by cases args; simp_all
  obtain ⟨rfl, rfl⟩ := trodVars_none hV
  obtain ⟨ao, len, cap, rfl⟩ := okWide_slice Tryd.underlying22 (hval 0 22 v0 rfl rfl)
  have h0k := h0
  obtain ⟨fuel0, hf0⟩ := h0
  obtain ⟨es, hC, hE⟩ := ps_came hf0 (small_part hk (by simp))
  clear hA0
  simp only [List.append_nil] at hW'
  have hlt : ∀ x ∈ p0, x.block < W.heap.size := fun x hx => hW'.lt x (by simpa using hx)
  refine (walk _ es W hC hE (pow_of hL)).mono fun e W' ⟨he, bel⟩ => ?_
  subst he
  exact ⟨_, rfl, _, _, _, [], p0 ++ [], [], hW', trodAll_mk1 (shut_bool Tryd.underlying4 _), trodAll_cons_mk (Below.trod (by kernel_rfl) (by kernel_rfl) (of_decide_eq_true (by kernel_rfl)) h0k bel hlt) trodAll_mk0, rfl, bel.frame _, fun h => by cases h⟩

noncomputable def low : Nat := (World.holding Tryd.prog default ⟨#[], #[], []⟩).heap.size
noncomputable def laidWorld (os : Os) : World :=
  let w0 := World.holding Tryd.prog os ⟨#[], #[], []⟩
  { w0 with heap := (((w0.heap.modify 4 fun
      | .cells _ t frozen => .cells #[.int .u64 1, .int .u64 10, .int .u64 100, .int .u64 1000, .int .u64 10000, .int .u64 100000, .int .u64 1000000, .int .u64 10000000, .int .u64 100000000, .int .u64 1000000000, .int .u64 10000000000, .int .u64 100000000000, .int .u64 1000000000000, .int .u64 10000000000000, .int .u64 100000000000000, .int .u64 1000000000000000, .int .u64 10000000000000000, .int .u64 100000000000000000, .int .u64 1000000000000000000, .int .u64 10000000000000000000] t frozen
      | o => o).modify 5 fun
      | .cells _ t frozen => .cells #[.int .u8 0, .int .u8 1, .int .u8 28, .int .u8 2, .int .u8 29, .int .u8 14, .int .u8 24, .int .u8 3, .int .u8 30, .int .u8 22, .int .u8 20, .int .u8 15, .int .u8 25, .int .u8 17, .int .u8 4, .int .u8 8, .int .u8 31, .int .u8 27, .int .u8 13, .int .u8 23, .int .u8 21, .int .u8 19, .int .u8 16, .int .u8 7, .int .u8 26, .int .u8 12, .int .u8 18, .int .u8 6, .int .u8 11, .int .u8 5, .int .u8 10, .int .u8 9] t frozen
      | o => o).modify 6 fun
      | .cells _ t frozen => .cells #[.int .u8 0, .int .u8 1, .int .u8 56, .int .u8 2, .int .u8 57, .int .u8 49, .int .u8 28, .int .u8 3, .int .u8 61, .int .u8 58, .int .u8 42, .int .u8 50, .int .u8 38, .int .u8 29, .int .u8 17, .int .u8 4, .int .u8 62, .int .u8 47, .int .u8 59, .int .u8 36, .int .u8 45, .int .u8 43, .int .u8 51, .int .u8 22, .int .u8 53, .int .u8 39, .int .u8 33, .int .u8 30, .int .u8 24, .int .u8 18, .int .u8 12, .int .u8 5, .int .u8 63, .int .u8 55, .int .u8 48, .int .u8 27, .int .u8 60, .int .u8 41, .int .u8 37, .int .u8 16, .int .u8 46, .int .u8 35, .int .u8 44, .int .u8 21, .int .u8 52, .int .u8 32, .int .u8 23, .int .u8 11, .int .u8 54, .int .u8 26, .int .u8 40, .int .u8 15, .int .u8 34, .int .u8 20, .int .u8 31, .int .u8 10, .int .u8 25, .int .u8 14, .int .u8 19, .int .u8 9, .int .u8 13, .int .u8 8, .int .u8 7, .int .u8 6] t frozen
      | o => o) }
theorem laid_met (os : Os) : laidMet Tryd.prog Rows.reportRowsUptoRow.laid ((laidWorld os).forCall (fun _ _ => 0) ⟨#[], #[.slice none 0 0], []⟩).memory :=
  laidMet_of_run' 8 (by kernel_rfl) (by kernel_rfl)
theorem reads (os : Os) {H : Type} (enc : TypeId × Value → H) : ∃ places, DataW.whole enc Tryd.prog ((laidWorld os).forCall (fun _ _ => 0) ⟨#[], #[.slice none 0 0], []⟩).memory Tryd.f4.params.toList Rows.reportRowsSpec.vars false #[Value.slice none 0 0].toList 8 = some ([.nil], [], places) :=
  ⟨[], by kernel_rfl⟩

set_option maxRecDepth 100000 in
theorem lifted (os : Os) (started : os.Started) (H : Type) (enc : TypeId × Value → H) (F : Stop.Interp) :
    ReturnsInHanded {} Tryd.checked os 4 .any ((Rows.OpenSpec.upto Rows.reportRowsSpec).preRow enc Tryd.prog Tryd.f4 Rows.reportRowsUptoRow.domain false Rows.reportRowsUptoRow.laid) (((Rows.OpenSpec.upto Rows.reportRowsSpec).at F).post enc Tryd.prog Tryd.f4 false true false false) := by
  obtain ⟨places, hx⟩ := reads os enc
  refine returnsInHanded_of_row (C := Tryd.checked) (s := Rows.OpenSpec.upto Rows.reportRowsSpec) own started (by kernel_rfl) Tryd.func4
    (witness_row_at (enc := enc) (C := Tryd.checked) false (laidWorld os) #[.slice none 0 0] rfl (by kernel_rfl) (by kernel_rfl) (by kernel_rfl)
      (OpenSpec.preRow_of_cond 8 hx (by kernel_rfl) (fun k hk => by cases hk; kernel_rfl) (by kernel_rfl) (laid_met os))) ?_
  intro W base args ds gs before hval hW _ hcond hsz hL _ _
  exact contract H enc W base args ds gs before hval hW (hcond _ rfl) hL

theorem said : Rows.ReportRowsUptoSaid :=
  OpenClaim.holds_of_cond 4 Tryd.f4 rfl rfl rfl rfl rfl rfl rfl ⟨rfl, rfl, rfl, rfl, rfl⟩ rfl rfl rfl rfl rfl (by kernel_rfl) Tryd.func4 (by kernel_rfl)
    (of_decide_eq_true (by kernel_rfl)) (by unfold Func.isWrapper; first | (rw [if_pos (by decide +kernel)]; kernel_rfl) | (rw [if_neg (by decide +kernel)]; exact ⟨rfl, rfl⟩))
    (fun os started H enc _ F => by rw [OpenClaim.pre_eq_preRow]; exact lifted os started H enc F)

theorem plain (f : FuncId) (fn : Func) (hf : Tryd.pinned.checked.prog.funcNamed "panicroad/panicroadkeep.ReportRows" = some f) (hfn : Tryd.pinned.checked.prog.funcs[f]? = some fn) :
    true = Tryd.pinned.checked.prog.looks [] ∧ ∀ (j : Nat) t, fn.params[j]? = some t → Tryd.pinned.checked.prog.wantsStandIn t = false := by
  obtain rfl : f = 4 := Option.some.inj ((show Tryd.prog.funcNamed "panicroad/panicroadkeep.ReportRows" = some 4 by kernel_rfl).symm.trans hf) |>.symm
  obtain rfl : fn = Tryd.f4 := (Option.some.inj (Tryd.func4.symm.trans hfn)).symm
  refine ⟨by kernel_rfl, fun j t ht => ?_⟩
  rw [Tryd.params4] at ht
  have hm := Array.mem_of_getElem? ht
  simp at hm
  subst hm
  exact (show Tryd.prog.wantsStandIn 22 = false by kernel_rfl)

theorem card : Rows.ReportRowsUptoCardSaid :=
  Claim7.holds_tied_plain_at .later [] _ _ _ _ said (fun _ h => by cases h) (by kernel_rfl) (fun _ h => by cases h) reportRowsUpto_row_tie rfl ⟨rfl, rfl⟩ (by kernel_rfl) rfl plain (by kernel_rfl)
#print axioms card
end Go.Proofs.YtncjaohiimenaabDoor.reportRows
