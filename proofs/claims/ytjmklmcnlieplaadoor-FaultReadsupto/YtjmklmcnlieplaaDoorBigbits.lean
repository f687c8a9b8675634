/- Contracts of the big numbers: bit, length, Uint64, Int64, TrailingZeroBits, IsInt64. -/
import Derived.Test.YtjmklmcnlieplaaDoorBigadd
import Derived.Test.YtjmklmcnlieplaaDoorBitplain
namespace Go.Proofs.YtjmklmcnlieplaaDoor
set_option maxRecDepth 100000
open Go.ChangeShapes Go.WideShapes Go.ChangeAt Go.RowKit

theorem nv_len' {l : List Int} {k : Nat} (h : Wds l) (hn : Norm l) (hv : nv l < top k) : l.length ≤ k := by
  by_cases h0 : l = []
  · subst h0; simp
  · have h1 := nv_norm h hn h0
    by_cases hk : l.length ≤ k
    · exact hk
    · have := top_mono (m := k) (n := l.length - 1) (by omega)
      omega
theorem word_now {w : World} {ao : Option Addr} {n cap : Nat} {ws : List Int} (h : Row w (.slice ao n cap) ws) {j : Nat} (hj : j < n) :
    ∃ g, ao = some ⟨g, 0, none⟩ ∧ w.cell? ⟨g, j, none⟩ = some (.int .u32 (ws.getD j 0)) ∧ 0 ≤ ws.getD j 0 ∧ ws.getD j 0 < 4294967296 := h.word (Below.refl _ _) hj
theorem len_of {w : World} {ao : Option Addr} {n cap : Nat} {ws : List Int} (h : Row w (.slice ao n cap) ws) : n = ws.length := by
  obtain ⟨_, _, _, e, _, h2⟩ := h.slice
  cases e; exact h2

set_option maxHeartbeats 800000 in
theorem length_any (v : Value) (ws : List Int) (w : World) (h : Row w v ws) (hn : Norm ws) (hl : ws.length ≤ 100000) :
    Calls Tryd.prog 59 #[v] w fun e w' => w' = w ∧ ∃ n : Nat, e = .returned (.int .i64 n) ∧ n ≤ 4000000 ∧ ∀ k, n ≤ k ↔ nv ws < 2 ^ k := by
  obtain ⟨ao, n, cap, rfl, -, hlen⟩ := h.slice
  by_cases h0 : n = 0
  · subst h0
    obtain rfl : ws = [] := List.length_eq_zero_iff.1 hlen.symm
    clear h hn hlen hl
    go_enter Tryd.func59, Tryd.ntmps59
    go_wp2
    go_ret
    exact ⟨rfl, 0, rfl, by omega, fun k => ⟨fun _ => Int.pow_pos (by decide), fun _ => Nat.zero_le _⟩⟩
  · obtain ⟨m, rfl⟩ : ∃ m, n = m + 1 := ⟨n - 1, by omega⟩
    obtain ⟨g, rfl, hc, t0, t1⟩ := word_now h (j := m) (by omega)
    have htop : ws.getD m 0 ≠ 0 := by
      intro e
      apply hn
      rw [List.getLast?_eq_getElem?, ← hlen, Nat.add_sub_cancel, List.getElem?_eq_getElem (by omega)]
      rw [List.getD_eq_getElem?_getD, List.getElem?_eq_getElem (by omega)] at e
      simpa using e
    have HK : Hid (∀ (j : Nat), ws.getD m 0 < 2 ^ j → 0 < j → (2 : Int) ^ (j - 1) ≤ ws.getD m 0 → ∀ k, 32 * m + j ≤ k ↔ nv ws < 2 ^ k) := fun j h1 hj h2 k => len_words h.wds hlen.symm rfl h1 hj h2 k
    generalize ws.getD m 0 = t at *
    have hm1 : m ≤ 100000 := by omega
    have hm2 : (((m + 1 : Nat) : Int) == 0) = false := by rw [beq_eq_false_iff_ne]; omega
    have hm3 : ((m : Int) + 1 == 0) = false := by rw [beq_eq_false_iff_ne]; omega
    clear h hn hlen hl h0
    go_enter Tryd.func59, Tryd.ntmps59
    go_wp2
    go_loop [3, 4] (fun nn tt => ∃ (j : Nat) (q : Int), nn = .int .i64 j ∧ tt = .int .u32 q ∧ 0 ≤ q ∧ q < 4294967296 ∧ j ≤ 32 ∧ Hid (q = t / 2 ^ j ∧ (j = 0 ∨ (2 : Int) ^ (j - 1) ≤ t))) (fun _ tt => (intOf tt).toNat)
    case atStart => exact ⟨0, t, rfl, rfl, t0, t1, by omega, by simp, .inl rfl⟩
    case round =>
      obtain ⟨j, q, rfl, rfl, q0, q1, hj, HQ⟩ := hrel
      have hp : (0 : Int) < 2 ^ j := Int.pow_pos (by decide)
      by_cases hz : q = 0
      · have hlt : t < 2 ^ j := by
          have h1 := HQ.out.1
          rw [hz] at h1
          have := Int.lt_ediv_add_one_mul_self t hp
          rw [← h1] at this
          omega
        have hj0 : 0 < j := by
          rcases Nat.eq_zero_or_pos j with rfl | h
          · simp at hlt; omega
          · exact h
        have HF : Hid (∀ k, 32 * m + j ≤ k ↔ nv ws < 2 ^ k) := HK.out j hlt hj0 (HQ.out.2.resolve_left (by omega))
        subst hz
        clear hlt HQ HK hp
        go_wp2
        go_ret
        refine ⟨rfl, 32 * m + j, ?_, by omega, HF.out⟩
        exact congrArg (fun x => Ending.returned (.int .i64 x)) (by omega)
      · have hle : (2 : Int) ^ j ≤ t := by
          have h1 := HQ.out.1
          by_cases h2 : t < 2 ^ j
          · rw [Int.ediv_eq_zero_of_lt t0 h2] at h1; exact absurd h1 hz
          · omega
        have hj31 : j < 32 := by
          by_cases h2 : j < 32
          · exact h2
          · obtain rfl : j = 32 := by omega
            have : (2 : Int) ^ 32 = 4294967296 := by decide
            omega
        have HQ2 : Hid (q / 2 = t / 2 ^ (j + 1) ∧ (2 : Int) ^ (j + 1 - 1) ≤ t) := ⟨by rw [HQ.out.1, Int.ediv_ediv_of_nonneg (by omega), Int.pow_succ], hle⟩
        have hb : (q != 0) = true := by rw [bne_iff_ne]; exact hz
        clear HQ HK hp hle
        go_wp2
        go_round
        case rel => exact ⟨j + 1, q / 2, by go_num, rfl, by omega, by omega, by omega, ⟨HQ2.out.1, .inr HQ2.out.2⟩⟩
        case measure => simp [intOf]; omega

theorem bit_any (v : Value) (ws : List Int) (i : Nat) (hi : i ≤ 10000000) (w : World) (h : Row w v ws) (hl : ws.length ≤ 100000) :
    Calls Tryd.prog 74 #[v, .int .i64 i] w fun e w' => e = .returned (.int .u64 (nv ws / 2 ^ i % 2)) ∧ w' = w := by
  obtain ⟨ao, n, cap, rfl, -, hlen⟩ := h.slice
  have hb := nv_bit h.wds (i / 32) (i % 32) (by omega)
  rw [show 32 * (i / 32) + i % 32 = i from by omega] at hb
  rw [hb]
  have q1 : ((i : Int) / 32) = ((i / 32 : Nat) : Int) := by omega
  have q2 : ((i : Int) % 32) = ((i % 32 : Nat) : Int) := by omega
  have hr32 : i % 32 < 32 := by omega
  have hq : i / 32 ≤ i := by omega
  clear hb
  by_cases hlt : i / 32 < n
  · obtain ⟨g, rfl, hc, t0, t1⟩ := word_now h hlt
    generalize ws.getD (i / 32) 0 = t at *
    generalize i / 32 = q at *
    generalize i % 32 = r at *
    have hp : (0 : Int) < 2 ^ r := Int.pow_pos (by decide)
    have hd0 : 0 ≤ t / 2 ^ r := Int.ediv_nonneg t0 (by omega)
    have hd1 : t / 2 ^ r < 4294967296 := by
      have := Int.ediv_le_self (2 ^ r) t0
      omega
    have ha := and_one hd0 (by omega)
    have hn1 : n ≤ 100000 := by omega
    clear h hlen hl
    go_enter Tryd.func74, Tryd.ntmps74
    go_wp2
    go_ret
    exact ⟨rfl, rfl⟩
  · have e : ws.getD (i / 32) 0 = 0 := getD_far (by omega)
    rw [e]
    generalize i / 32 = q at *
    have hn1 : n ≤ 100000 := by omega
    clear h hlen hl e
    go_enter Tryd.func74, Tryd.ntmps74
    go_wp2
    go_ret
    exact ⟨by simp, rfl⟩

theorem nv_two {ws : List Int} (hl : ws.length ≤ 2) : nv ws = ws.getD 0 0 + 4294967296 * ws.getD 1 0 := by
  match ws, hl with
  | [], _ => rfl
  | [x], _ => simp [nv]
  | [x, y], _ => simp [nv]
set_option maxHeartbeats 800000 in
theorem uint64_any (b : Nat) (neg : Bool) (v : Value) (ws : List Int) (w : World) (hi : IntBlock w b neg v) (h : Row w v ws) (hn : Norm ws) (hv : nv ws < 18446744073709551616) :
    Calls Tryd.prog 61 #[.pointer (some ⟨b, 0, none⟩)] w fun e w' => e = .returned (.int .u64 (nv ws)) ∧ w' = w := by
  obtain ⟨c0, c1, -, -⟩ := hi.cells
  obtain ⟨ao, n, cap, rfl, -, hlen⟩ := h.slice
  have hl2 : ws.length ≤ 2 := by
    apply nv_len' h.wds hn
    have : top 2 = 18446744073709551616 := by decide
    rw [this]; exact hv
  rw [nv_two hl2]
  rcases (show n = 0 ∨ n = 1 ∨ n = 2 by omega) with rfl | rfl | rfl
  · obtain rfl : ws = [] := List.length_eq_zero_iff.1 hlen.symm
    clear hi h hn hv hl2 hlen
    go_enter Tryd.func61, Tryd.ntmps61
    go_wp2
    go_ret
    exact ⟨rfl, rfl⟩
  · obtain ⟨g, rfl, p0, x0, x1⟩ := word_now h (j := 0) (by omega)
    have e1 : ws.getD 1 0 = 0 := getD_far (by omega)
    rw [e1]
    generalize ws.getD 0 0 = x at *
    clear hi h hn hv hl2 hlen e1
    go_enter Tryd.func61, Tryd.ntmps61
    go_wp2
    go_ret
    exact ⟨congrArg (fun y => Ending.returned (.int .u64 y)) (by omega), rfl⟩
  · obtain ⟨g, rfl, p0, x0, x1⟩ := word_now h (j := 0) (by omega)
    obtain ⟨g', e', p1, y0, y1⟩ := word_now h (j := 1) (by omega)
    cases e'
    generalize ws.getD 0 0 = x at *
    generalize ws.getD 1 0 = y at *
    have ho := or_low x0 x1 y0 y1
    clear hi h hn hv hl2 hlen
    go_enter Tryd.func61, Tryd.ntmps61
    go_wp2
    go_ret
    exact ⟨rfl, rfl⟩
theorem int64_any (b : Nat) (z : Int) (w : World) (h : Big w b z) (h0 : -9223372036854775808 ≤ z) (h1 : z ≤ 9223372036854775807) :
    Calls Tryd.prog 41 #[.pointer (some ⟨b, 0, none⟩)] w fun e w' => e = .returned (.int .i64 z) ∧ w' = w := by
  obtain ⟨neg, v, ws, hi, hr, hn, hne, hz⟩ := h
  obtain ⟨c0, -, -, -⟩ := hi.cells
  have hnn := (nv_range hr.wds).1
  have hv : nv ws < 18446744073709551616 := by cases neg <;> simp at hz <;> omega
  have HC : Hid (Calls Tryd.prog 61 #[.pointer (some ⟨b, 0, none⟩)] w fun e w' => e = .returned (.int .u64 (nv ws)) ∧ w' = w) := uint64_any b neg v ws w hi hr hn hv
  cases neg
  · simp at hz
    subst hz
    clear hi hr hn hne hv
    go_enter Tryd.func41, Tryd.ntmps41
    go_wp2_with fail
    refine HC.out.mono ?_
    rintro e w' ⟨rfl, rfl⟩
    go_wp2
    go_ret
    exact ⟨rfl, rfl⟩
  · simp at hz
    have hwr : wrap64 (- wrap64 (nv ws)) = z := by unfold wrap64; omega
    have HW : Hid (wrap64 (- wrap64 (nv ws)) = z) := hwr
    have hd : nv ws ≤ 9223372036854775808 := by omega
    generalize nv ws = u at *
    clear hi hr hn hne hv hz hwr h0 h1
    go_enter Tryd.func41, Tryd.ntmps41
    go_wp2_with fail
    refine HC.out.mono ?_
    rintro e w' ⟨rfl, rfl⟩
    go_wp2
    go_ret
    exact ⟨by rw [← HW.out]; rfl, rfl⟩

set_option maxHeartbeats 800000 in
theorem tz_any (b : Nat) (neg : Bool) (v : Value) (ws : List Int) (w : World) (hi : IntBlock w b neg v) (h : Row w v ws) (hp : 0 < nv ws) (hl : ws.length ≤ 1000) :
    Calls Tryd.prog 60 #[.pointer (some ⟨b, 0, none⟩)] w fun e w' => w' = w ∧ ∃ n : Nat, e = .returned (.int .u64 n) ∧ nv ws % 2 ^ n = 0 ∧ nv ws / 2 ^ n % 2 = 1 := by
  obtain ⟨c0, c1, -, -⟩ := hi.cells
  obtain ⟨ao, n, cap, rfl, -, hlen⟩ := h.slice
  have hn0 : ((n : Int) == 0) = false := by
    rw [beq_eq_false_iff_ne]
    intro e
    have : ws = [] := List.length_eq_zero_iff.1 (by omega)
    subst this
    simp [nv] at hp
  have hlt := (nv_range h.wds).2
  rw [top_pow] at hlt
  have HB : Hid (∀ k, nv ws % 2 ^ k = 0 → k < 32 * ws.length) := fun k hk => by
    by_cases h2 : k < 32 * ws.length
    · exact h2
    · obtain ⟨c, rfl⟩ := Nat.exists_eq_add_of_le (show 32 * ws.length ≤ k by omega)
      rw [Int.emod_eq_of_lt (by omega) (by
        rw [Int.pow_add]
        have h3 : (0 : Int) < 2 ^ c := Int.pow_pos (by decide)
        have h4 : (0 : Int) < 2 ^ (32 * ws.length) := Int.pow_pos (by decide)
        have : (2 : Int) ^ (32 * ws.length) * 1 ≤ 2 ^ (32 * ws.length) * 2 ^ c := Int.mul_le_mul_of_nonneg_left (by omega) (by omega)
        omega)] at hk
      omega
  have HR : Hid (Row w (.slice ao n cap) ws) := h
  have HL : Hid (ws.length ≤ 1000) := hl
  have hL : 32 * ws.length ≤ 32000 := by omega
  generalize 32 * ws.length = L at *
  clear hi h hlt hlen hl
  go_enter Tryd.func60, Tryd.ntmps60
  go_wp2
  go_loop [3] (fun t => ∃ k : Nat, k ≤ L ∧ t = .int .u64 k ∧ Hid (nv ws % 2 ^ k = 0)) (fun t => L - (intOf t).toNat)
  case atStart => exact ⟨0, Nat.zero_le _, rfl, by simp [Hid, Int.emod_one]⟩
  case round =>
    obtain ⟨k, hk, rfl, HZ⟩ := hrel
    have hkL := HB.out k HZ.out
    have HBIT : Hid (Calls Tryd.prog 74 #[.slice ao n cap, .int .i64 k] w fun e w' => e = .returned (.int .u64 (nv ws / 2 ^ k % 2)) ∧ w' = w) := bit_any _ ws k (by omega) w HR.out (by have := HL.out; omega)
    by_cases hbit : nv ws / 2 ^ k % 2 = 0
    · have HZ2 : Hid (nv ws % 2 ^ (k + 1) = 0) := by
        show nv ws % 2 ^ (k + 1) = 0
        have h1 := Int.mul_ediv_add_emod (nv ws) (2 ^ k)
        rw [HZ.out] at h1
        have h2 := Int.mul_ediv_add_emod (nv ws / 2 ^ k) 2
        rw [hbit] at h2
        rw [← h1, ← h2, Int.pow_succ, Int.add_zero, Int.add_zero, ← Int.mul_assoc]
        exact Int.mul_emod_right _ _
      have hb : (nv ws / 2 ^ k % 2 == 0) = true := by rw [hbit]; rfl
      generalize nv ws / 2 ^ k % 2 = q at *
      clear hbit
      go_wp2_with fail
      refine HBIT.out.mono ?_
      rintro e w' ⟨rfl, rfl⟩
      go_wp2
      go_round
      case rel => exact ⟨k + 1, by omega, by go_num, HZ2.out⟩
      case measure => simp [intOf]; omega
    · have h1 : nv ws / 2 ^ k % 2 = 1 := by omega
      have H1 : Hid (nv ws / 2 ^ k % 2 = 1) := h1
      have hb : (nv ws / 2 ^ k % 2 == 0) = false := by rw [h1]; rfl
      clear hbit h1
      generalize hq : nv ws / 2 ^ k % 2 = q at hb HBIT
      clear hq
      go_wp2_with fail
      refine HBIT.out.mono ?_
      rintro e w' ⟨rfl, rfl⟩
      go_wp2
      go_ret
      exact ⟨rfl, k, rfl, HZ.out, H1.out⟩

/-- Does a number fit 64 bits? -/
def fitB (z : Int) : Bool := decide (-9223372036854775808 ≤ z ∧ z ≤ 9223372036854775807)
set_option maxHeartbeats 800000 in
theorem isInt64_any (b : Nat) (z : Int) (w : World) (h : Big w b z) (hs : -(10 ^ 40 : Int) < z) (hs2 : z < 10 ^ 40) :
    Calls Tryd.prog 40 #[.pointer (some ⟨b, 0, none⟩)] w fun e w' => e = .returned (.bool (fitB z)) ∧ w' = w := by
  obtain ⟨neg, v, ws, hi, hr, hn, hne, hz⟩ := h
  obtain ⟨c0, c1, -, -⟩ := hi.cells
  obtain ⟨ao, n, cap, rfl, -, -⟩ := hr.slice
  have hnn := (nv_range hr.wds).1
  have hl5 : ws.length ≤ 5 := nv_len' hr.wds hn (by
    have e : top 5 = 1461501637330902918203684832716283019655932542976 := by decide
    rw [e]
    cases neg <;> simp at hz <;> omega)
  have HLEN : Hid (Calls Tryd.prog 59 #[.slice ao n cap] w fun e w' => w' = w ∧ ∃ n : Nat, e = .returned (.int .i64 n) ∧ n ≤ 4000000 ∧ ∀ k, n ≤ k ↔ nv ws < 2 ^ k) := length_any _ ws w hr hn (by omega)
  have HTZ : Hid (0 < nv ws → Calls Tryd.prog 60 #[.pointer (some ⟨b, 0, none⟩)] w fun e w' => w' = w ∧ ∃ n : Nat, e = .returned (.int .u64 n) ∧ nv ws % 2 ^ n = 0 ∧ nv ws / 2 ^ n % 2 = 1) := fun hp => tz_any b neg _ ws w hi hr hp (by omega)
  have p63 : (2 : Int) ^ 63 = 9223372036854775808 := by decide
  have p64 : (2 : Int) ^ 64 = 18446744073709551616 := by decide
  have HZ : Hid (z = if neg then - nv ws else nv ws) := hz
  have HNN : Hid (0 ≤ nv ws) := hnn
  have HP : Hid ((2 : Int) ^ 63 = 9223372036854775808 ∧ (2 : Int) ^ 64 = 18446744073709551616) := ⟨p63, p64⟩
  clear hi hr hn hne hz hl5 hs hs2 hnn p63 p64
  go_enter Tryd.func40, Tryd.ntmps40
  go_wp2_with fail
  refine HLEN.out.mono ?_
  rintro e w' ⟨rfl, m, rfl, hm, hk⟩
  have k63 := hk 63
  have k64 := hk 64
  rw [HP.out.1] at k63
  rw [HP.out.2] at k64
  have HK : Hid ((m ≤ 63 ↔ nv ws < 9223372036854775808) ∧ (m ≤ 64 ↔ nv ws < 18446744073709551616)) := ⟨k63, k64⟩
  clear hk k63 k64
  by_cases h1 : m < 64
  · have HF : Hid (fitB z = true) := by
      show fitB z = true
      have := HK.out.1.1 (by omega)
      have h0 := HNN.out
      have hz := HZ.out
      unfold fitB
      cases neg <;> simp at hz ⊢ <;> omega
    go_wp2
    go_ret
    exact ⟨by rw [HF.out]; rfl, rfl⟩
  by_cases h2 : m = 64
  · subst h2
    cases neg
    · have HF : Hid (fitB z = false) := by
        show fitB z = false
        have h3 : ¬ nv ws < 9223372036854775808 := fun h => by have := HK.out.1.2 h; omega
        have hz := HZ.out
        unfold fitB
        simp at hz ⊢
        omega
      go_wp2
      go_ret
      exact ⟨by rw [HF.out]; rfl, rfl⟩
    · have h3 : ¬ nv ws < 9223372036854775808 := fun h => by have := HK.out.1.2 h; omega
      have h4 := HK.out.2.1 (by omega)
      have H34 : Hid (9223372036854775808 ≤ nv ws ∧ nv ws < 18446744073709551616) := ⟨by omega, h4⟩
      clear h3 h4
      go_wp2_with fail
      refine (HTZ.out (by have := H34.out.1; omega)).mono ?_
      rintro e w' ⟨rfl, t, rfl, ht0, ht1⟩
      by_cases ht : t = 63
      · subst ht
        have HF : Hid (fitB z = true) := by
          show fitB z = true
          rw [HP.out.1] at ht0 ht1
          have h5 := H34.out
          have hz := HZ.out
          unfold fitB
          simp at hz ⊢
          omega
        clear ht0 ht1
        go_wp2
        go_ret
        exact ⟨by rw [HF.out]; rfl, rfl⟩
      · have HF : Hid (fitB z = false) := by
          show fitB z = false
          have h5 := H34.out
          have hz := HZ.out
          have hne : nv ws ≠ 9223372036854775808 := by
            intro e
            rw [e] at ht0 ht1
            by_cases h6 : t < 63
            · obtain ⟨c, hc⟩ : ∃ c, 63 = t + 1 + c := ⟨62 - t, by omega⟩
              have e2 : (9223372036854775808 : Int) = 2 ^ t * (2 * 2 ^ c) := by
                have : (2 : Int) ^ t * (2 * 2 ^ c) = 2 ^ (t + 1 + c) := by rw [Int.pow_add, Int.pow_succ, Int.mul_assoc]
                rw [this, ← hc, HP.out.1]
              rw [e2, Int.mul_ediv_cancel_left _ (by have : (0 : Int) < 2 ^ t := Int.pow_pos (by decide)
                                                     omega), Int.mul_emod_right] at ht1
              omega
            · obtain ⟨c, hc⟩ : ∃ c, t = 64 + c := ⟨t - 64, by omega⟩
              rw [Int.ediv_eq_zero_of_lt (by decide) (by
                rw [hc, Int.pow_add, HP.out.2]
                have : (0 : Int) < 2 ^ c := Int.pow_pos (by decide)
                omega)] at ht1
              simp at ht1
          unfold fitB
          simp at hz ⊢
          omega
        have hb : ((t : Int) == 63) = false := by rw [beq_eq_false_iff_ne]; omega
        clear ht0 ht1
        go_wp2
        go_ret
        exact ⟨by rw [HF.out]; rfl, rfl⟩
  · have HF : Hid (fitB z = false) := by
      show fitB z = false
      have h3 : ¬ nv ws < 18446744073709551616 := fun h => by have := HK.out.2.2 h; omega
      have hz := HZ.out
      unfold fitB
      cases neg <;> simp at hz ⊢ <;> omega
    have hb : ((m : Int) == 64) = false := by rw [beq_eq_false_iff_ne]; omega
    have hd : decide ((m : Int) < 64) = false := decide_eq_false (by omega)
    go_wp2
    go_ret
    exact ⟨by rw [HF.out]; rfl, rfl⟩
end Go.Proofs.YtjmklmcnlieplaaDoor
