/- What is shown is cut into the same tokens: the walk of the law, whole. -/
import Derived.Test.YtljdfaoplenloabDoorBwalk
namespace Go.Proofs.YtljdfaoplenloabDoor
open Go.ChangeShapes Go.WideShapes Go.ChangeAt Go.RowKit
set_option maxRecDepth 100000
set_option linter.unusedSimpArgs false
set_option linter.unusedVariables false

theorem showV_short (l : List Tj) : (showV l).length ≤ 8000 := by
  unfold showV
  split
  · rename_i h
    unfold showE at h
    split at h
    · cases h
    · split at h
      · cases h
      · split at h
        · cases h
        · omega
  · simp
theorem showE_len {l : List Tj} (h : showE l = 0) : l.length ≤ 2000 := by
  unfold showE at h
  split at h
  · cases h
  · omega
set_option maxHeartbeats 4000000 in
theorem own_back (v : Value) (l : List Tj) (w : World) (hC : TCame w v l) (hS : ∀ t ∈ l, t.text.size ≤ 140737488355328) (hN : l.length * 40 ≤ 140737488355328) (hlib : Lib3 w) :
    Calls Tryd.prog 3 #[v] w fun e w' => e = .returned (.bool true) ∧ Below w.heap.size w w' := by
  have HSH : Hid (∀ v' W, Below w.heap.size w W → TLies W v' l → Calls Tryd.prog 7 #[v'] W (ShowPost W l)) := fun v' W hW hL => own_show v' l W hL (fun t ht => by have := hS t ht; omega) (hlib.below hW)
  have HT : Hid (∀ s W, s.size ≤ maxLen → Below w.heap.size w W → Calls Tryd.prog 9 #[.string s] W (Told W (tokR s))) := fun s W hs hW => own_tokens _ W hs (hlib.below hW)
  have H3 : Hid (∀ W, Below w.heap.size w W → Calls Tryd.prog 8 #[] W fun e w' => e = .returned (.bool true) ∧ Below W.heap.size W w') := fun W hW => own_three W (hlib.below hW)
  obtain ⟨ao, ca, rfl⟩ := hC.shape
  have HC : Hid (TCame w (.slice ao l.length ca) l) := hC
  have HN : Hid (l.length * 40 ≤ 140737488355328) := hN
  have hn : l.length ≤ 4398046511104 := by omega
  clear hlib hC hN hS
  go_enter Tryd.func3, Tryd.ntmps3
  go_wp2_with (at_builtin; refine tcopy rfl _ _ rfl rfl rfl HC.out HN.out ?_)
  intro v1 w1 hL1 hb1
  have HB1 : Hid (Below w.heap.size w w1) := hb1
  have HS1 : Hid (Calls Tryd.prog 7 #[v1] w1 (ShowPost w1 l)) := HSH.out v1 w1 hb1 hL1
  clear hL1 hb1 HSH
  go_wp2_with fail
  refine HS1.out.mono ?_
  rintro e w2 ⟨rfl, hb2⟩
  have HB2 : Hid (Below w.heap.size w w2) := HB1.out.trans (hb2.mono HB1.out.size)
  have HC2 : Hid (TCame w2 (.slice ao l.length ca) l) := HC.out.below HB2.out
  have HVZ : Hid ((⟨(showV l).toArray⟩ : ByteArray).size ≤ 8000) := by
    have := showV_short l
    show _ ≤ _
    rw [← bsize_list]
    exact this
  clear hb2 HS1 HB1
  by_cases he : showE l = 0
  · have hle := showE_len he
    have hbk := tok_back he
    rw [he]
    clear he HN hn
    generalize (⟨(showV l).toArray⟩ : ByteArray) = src at *
    go_wp2_with fail
    refine (HT.out src w2 (by have := HVZ.out; unfold maxLen; omega) HB2.out).mono ?_
    intro e w3 ht
    rcases hbk with ⟨s, hR, hk⟩ | ⟨h2000, ln, cl, hR⟩
    · obtain ⟨hb3, bo, cb, rfl, hown⟩ := told_ok hR ht
      have HK : Hid (KK s.ts = KT l ∨ KK s.ts = KT l ++ [(6, ⟨#[59]⟩)]) := hk
      have HB3 : Hid (Below w.heap.size w (w3.alloc (.cells #[.int .i64 0, .int .i64 0, .int .i64 0] 28))) := (HB2.out.trans (hb3.mono HB2.out.size)).alloc (HB2.out.trans (hb3.mono HB2.out.size)).size _
      have HC3 : Hid (TCame (w3.alloc (.cells #[.int .i64 0, .int .i64 0, .int .i64 0] 28)) (.slice ao l.length ca) l) := HC.out.below HB3.out
      have HO3 : Hid ((w3.alloc (.cells #[.int .i64 0, .int .i64 0, .int .i64 0] 28)).ownsRow w2.heap.size 34 4 (.slice bo s.ts.length cb) s.ts.length (tcells s.ts)) := row_on hown (Nat.le_refl _) ((Below.refl _ _).alloc (Nat.le_refl _) _)
      have HS3 : Hid ((w3.alloc (.cells #[.int .i64 0, .int .i64 0, .int .i64 0] 28)).heap[w3.heap.size]? = some (.cells #[.int .i64 0, .int .i64 0, .int .i64 0] 28 (0, 0)) ∧ w3.heap.size < (w3.alloc (.cells #[.int .i64 0, .int .i64 0, .int .i64 0] 28)).heap.size) := spot_new _ _ _ _
      clear ht hR hk hb3 hown
      go_wp2_with fail
      generalize (w3.alloc (.cells #[.int .i64 0, .int .i64 0, .int .i64 0] 28)) = W3 at *
      refine (H3.out _ HB3.out).mono ?_
      rintro e w4 ⟨rfl, hb4⟩
      have HB4 : Hid (Below w.heap.size w w4) := HB3.out.trans (hb4.mono HB3.out.size)
      have x1 := (hb4.block w3.heap.size HS3.out.2).trans HS3.out.1
      have c1 : w4.cell? ⟨w3.heap.size, 0, none⟩ = some (.int .i64 0) := by simp [World.cell?, x1]
      have HAL : Hid (Calls Tryd.prog 10 #[.slice ao l.length ca, .slice bo s.ts.length cb, .bool true] w4 fun e w' => e = .returned (.bool true) ∧ ∃ m, w' = w4.drewN m) := own_alike2 l s.ts w2.heap.size w4 _ bo cb HK.out (HC.out.below HB4.out) hle (row_on HO3.out (Nat.le_refl _) hb4)
      clear x1 hb4
      go_wp2_with fail
      refine HAL.out.mono ?_
      rintro e w5 ⟨rfl, m, rfl⟩
      go_wp2
      go_ret
      exact ⟨rfl, below_dn HB4.out m⟩
    · rw [hR] at ht
      obtain ⟨hb3, rfl⟩ := ht
      have HB3 : Hid (Below w.heap.size w (w3.alloc (.cells #[.int .i64 15, .int .i64 ln, .int .i64 cl] 28))) := (HB2.out.trans (hb3.mono HB2.out.size)).alloc (HB2.out.trans (hb3.mono HB2.out.size)).size _
      clear hR hb3
      rw [h2000]
      go_wp2_with fail
      refine (H3.out _ HB3.out).mono ?_
      rintro e w4 ⟨rfl, hb4⟩
      have HB4 : Hid (Below w.heap.size w w4) := HB3.out.trans (hb4.mono HB3.out.size)
      clear hb4
      go_wp2
      go_ret
      exact ⟨rfl, HB4.out⟩
  · have hne : (showE l != 0) = true := by simpa using he
    clear he
    generalize showE l = z at *
    go_wp2_with fail
    refine (H3.out _ HB2.out).mono ?_
    rintro e w4 ⟨rfl, hb4⟩
    have HB4 : Hid (Below w.heap.size w w4) := HB2.out.trans (hb4.mono HB2.out.size)
    clear hb4
    go_wp2
    go_ret
    exact ⟨rfl, HB4.out⟩
end Go.Proofs.YtljdfaoplenloabDoor
