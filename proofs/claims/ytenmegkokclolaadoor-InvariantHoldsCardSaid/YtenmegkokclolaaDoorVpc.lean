/- math/bits.OnesCount64 of a number below 2^24. -/
import Derived.Test.YtenmegkokclolaaDoorKlf
import Derived.Laws.Bits128
namespace Go.Proofs.YtenmegkokclolaaDoor
open Go.RowKit
set_option linter.unusedSimpArgs false
set_option linter.unusedVariables false
set_option maxRecDepth 100000

theorem and_split (x m M k : Nat) (hk : k < 8) (hm : m < 2 ^ (8 - k)) :
    (x >>> k) &&& (m + 256 * M) = (((x % 256) >>> k) &&& m) + 256 * (((x / 256) >>> k) &&& M) := by
  have hm8 : m < 256 := Nat.lt_of_lt_of_le hm (by rw [show (256 : Nat) = 2 ^ 8 from rfl]; exact Nat.pow_le_pow_right (by omega) (by omega))
  have e1 : ((x >>> k) &&& (m + 256 * M)) % 256 = ((x % 256) >>> k) &&& m := by
    rw [show (256 : Nat) = 2 ^ 8 from rfl, Nat.and_mod_two_pow, show (m + 2 ^ 8 * M) % 2 ^ 8 = m by omega]
    apply Nat.eq_of_testBit_eq
    intro i
    simp only [Nat.testBit_and, Nat.testBit_mod_two_pow, Nat.testBit_shiftRight]
    rcases Nat.lt_or_ge i (8 - k) with h | h
    · simp [show i < 8 by omega, show k + i < 8 by omega]
    · have : m.testBit i = false := Nat.testBit_lt_two_pow (Nat.lt_of_lt_of_le hm (Nat.pow_le_pow_right (by omega) h))
      simp [this]
  have e2 : ((x >>> k) &&& (m + 256 * M)) / 256 = ((x / 256) >>> k) &&& M := by
    rw [show (256 : Nat) = 2 ^ 8 from rfl, Nat.and_div_two_pow, show (m + 2 ^ 8 * M) / 2 ^ 8 = M by omega, Nat.shiftRight_eq_div_pow, Nat.shiftRight_eq_div_pow, Nat.div_div_eq_div_mul, Nat.div_div_eq_div_mul, Nat.mul_comm]
  omega

def hop (k m x : Nat) : Nat := ((x >>> k) &&& m) + (x &&& m)
theorem hop_split (x m M k : Nat) (hk : k < 8) (hm : m < 2 ^ (8 - k)) : hop k (m + 256 * M) x = hop k m (x % 256) + 256 * hop k M (x / 256) := by
  have h0 := and_split x m M 0 (by omega) (Nat.lt_of_lt_of_le hm (Nat.pow_le_pow_right (by omega) (by omega)))
  have h1 := and_split x m M k hk hm
  simp only [Nat.shiftRight_zero] at h0
  unfold hop
  rw [h0, h1]
  omega
def bits8 (a : Nat) : Nat := a % 2 + a / 2 % 2 + a / 4 % 2 + a / 8 % 2 + a / 16 % 2 + a / 32 % 2 + a / 64 % 2 + a / 128 % 2
theorem hop_lt : ∀ a : Fin 256, hop 1 85 a.val < 256 ∧ hop 2 51 (hop 1 85 a.val) < 69 ∧ hop 2 51 (hop 1 85 a.val) % 16 < 5 ∧
    ((hop 2 51 (hop 1 85 a.val)) + (hop 2 51 (hop 1 85 a.val)) / 16) % 16 = bits8 a.val ∧ bits8 a.val ≤ 8 := by decide +kernel
theorem hop_zero (k m : Nat) : hop k m 0 = 0 := by simp [hop]
def hopOne (x : Nat) : Nat := hop 1 6148914691236517205 x
def hopTwo (x : Nat) : Nat := hop 2 3689348814741910323 x
def hopFour (x : Nat) : Nat := ((x >>> 4) + x) &&& 1085102592571150095
theorem hopOne_eq (x : Nat) (h : x < 16777216) : hopOne x = hop 1 85 (x % 256) + 256 * hop 1 85 (x / 256 % 256) + 65536 * hop 1 85 (x / 65536) := by
  unfold hopOne
  rw [show (6148914691236517205 : Nat) = 85 + 256 * (85 + 256 * (85 + 256 * 366503875925)) from rfl]
  rw [hop_split _ 85 _ 1 (by omega) (by omega), hop_split _ 85 _ 1 (by omega) (by omega), hop_split _ 85 _ 1 (by omega) (by omega)]
  rw [show x / 256 / 256 / 256 = 0 by omega, hop_zero, show x / 256 / 256 = x / 65536 by omega, show x / 65536 % 256 = x / 65536 by omega]
  omega
theorem hopTwo_eq (a b c : Nat) (ha : a < 256) (hb : b < 256) (hc : c < 256) : hopTwo (a + 256 * b + 65536 * c) = hop 2 51 a + 256 * hop 2 51 b + 65536 * hop 2 51 c := by
  unfold hopTwo
  rw [show (3689348814741910323 : Nat) = 51 + 256 * (51 + 256 * (51 + 256 * 219902325555)) from rfl]
  rw [hop_split _ 51 _ 2 (by omega) (by omega), hop_split _ 51 _ 2 (by omega) (by omega), hop_split _ 51 _ 2 (by omega) (by omega)]
  rw [show (a + 256 * b + 65536 * c) / 256 / 256 / 256 = 0 by omega, hop_zero, show (a + 256 * b + 65536 * c) / 256 / 256 % 256 = c by omega, show (a + 256 * b + 65536 * c) / 256 % 256 = b by omega, show (a + 256 * b + 65536 * c) % 256 = a by omega]
  omega
theorem low4 (y M : Nat) : y &&& (15 + 256 * M) = y % 16 + 256 * ((y / 256) &&& M) := by
  have h := and_split y 15 M 0 (by omega) (by omega)
  simp only [Nat.shiftRight_zero] at h
  rw [h, show (15 : Nat) = 2 ^ 4 - 1 from rfl, Nat.and_two_pow_sub_one_eq_mod]
  omega
theorem hopFour_eq (a b c : Nat) (ha : a < 69) (hb : b < 69) (hc : c < 69) (hb' : b % 16 < 5) (hc' : c % 16 < 5) :
    hopFour (a + 256 * b + 65536 * c) = (a + a / 16) % 16 + 256 * ((b + b / 16) % 16) + 65536 * ((c + c / 16) % 16) := by
  unfold hopFour
  rw [show (1085102592571150095 : Nat) = 15 + 256 * (15 + 256 * (15 + 256 * 64677154575)) from rfl, low4, low4, low4, Nat.shiftRight_eq_div_pow]
  have hy : (a + 256 * b + 65536 * c) / 2 ^ 4 + (a + 256 * b + 65536 * c) = (a + a / 16 + 16 * (b % 16)) + 256 * (b + b / 16 + 16 * (c % 16)) + 65536 * (c + c / 16) := by omega
  have hA : a + a / 16 + 16 * (b % 16) < 256 := by omega
  have hB : b + b / 16 + 16 * (c % 16) < 256 := by omega
  have hC : c + c / 16 < 256 := by omega
  have h1 : (a + a / 16 + 16 * (b % 16)) % 16 = (a + a / 16) % 16 := by omega
  have h2 : (b + b / 16 + 16 * (c % 16)) % 16 = (b + b / 16) % 16 := by omega
  rw [hy, ← h1, ← h2]
  generalize a + a / 16 + 16 * (b % 16) = A at hA ⊢
  generalize b + b / 16 + 16 * (c % 16) = B at hB ⊢
  generalize c + c / 16 = C at hC ⊢
  rw [show (A + 256 * B + 65536 * C) / 256 / 256 / 256 = 0 by omega, Nat.zero_and, show (A + 256 * B + 65536 * C) / 256 / 256 = C by omega, show (A + 256 * B + 65536 * C) / 256 % 16 = B % 16 by omega, show (A + 256 * B + 65536 * C) % 16 = A % 16 by omega]
  omega
def bits24 (x : Nat) : Nat := bits8 (x % 256) + bits8 (x / 256 % 256) + bits8 (x / 65536)
theorem ones_eq (x : Nat) (h : x < 16777216) : ∃ p q r, hopFour (hopTwo (hopOne x)) = p + 256 * q + 65536 * r ∧ p + q + r = bits24 x ∧ p ≤ 8 ∧ q ≤ 8 ∧ r ≤ 8 := by
  obtain ⟨a1, a2, a5, a3, a4⟩ := hop_lt ⟨x % 256, by omega⟩
  obtain ⟨b1, b2, b5, b3, b4⟩ := hop_lt ⟨x / 256 % 256, by omega⟩
  obtain ⟨c1, c2, c5, c3, c4⟩ := hop_lt ⟨x / 65536, by omega⟩
  rw [hopOne_eq x h, hopTwo_eq _ _ _ a1 b1 c1, hopFour_eq _ _ _ a2 b2 c2 b5 c5]
  exact ⟨_, _, _, rfl, by rw [a3, b3, c3]; rfl, by rw [a3]; exact a4, by rw [b3]; exact b4, by rw [c3]; exact c4⟩
theorem bits8_count : ∀ a : Fin 256, bits8 a.val = (List.range 8).countP a.val.testBit := by decide +kernel
theorem bits8_part (x k : Nat) : (List.range 8).countP (x / 2 ^ k % 256).testBit = (List.range 8).countP (fun i => x.testBit (k + i)) := by
  apply List.countP_congr
  intro i hi
  have h8 : i < 8 := by simpa using hi
  rw [show (256 : Nat) = 2 ^ 8 from rfl, Nat.testBit_mod_two_pow, Nat.testBit_div_two_pow]
  simp [h8, Nat.add_comm]
theorem bits24_count (x : Nat) (h : x < 16777216) : bits24 x = (List.range 24).countP x.testBit := by
  have h0 := bits8_count ⟨x % 256, by omega⟩
  have h1 := bits8_count ⟨x / 256 % 256, by omega⟩
  have h2 := bits8_count ⟨x / 65536 % 256, by omega⟩
  have p0 := bits8_part x 0
  have p1 := bits8_part x 8
  have p2 := bits8_part x 16
  simp only [Nat.pow_zero, Nat.div_one, Nat.zero_add] at p0
  rw [show (2 : Nat) ^ 8 = 256 from rfl] at p1
  rw [show (2 : Nat) ^ 16 = 65536 from rfl] at p2
  unfold bits24
  rw [show x / 65536 = x / 65536 % 256 by omega, h0, h1, h2, p0, p1, p2]
  rw [show List.range 24 = List.range 8 ++ (List.range 8).map (8 + ·) ++ (List.range 8).map (16 + ·) from rfl]
  rw [List.countP_append, List.countP_append, List.countP_map, List.countP_map]
  rfl

theorem div_cast (x k : Nat) : (x : Int) / (k : Int) = ((x / k : Nat) : Int) := by simp
theorem and_le (x m : Nat) : x &&& m ≤ x := Nat.and_le_left
theorem hopOne_int (x : Nat) (h : x < 16777216) :
    IntKind.u64.wrap (bits .and .u64 ((x : Int) / 2) 6148914691236517205 + bits .and .u64 (x : Int) 6148914691236517205) = ((hopOne x : Nat) : Int) := by
  have l1 := and_le (x / 2) 6148914691236517205
  have l2 := and_le x 6148914691236517205
  have e1 := u64_and_nat (x / 2) 6148914691236517205 (by omega) (by omega)
  have e2 := u64_and_nat x 6148914691236517205 (by omega) (by omega)
  rw [show ((6148914691236517205 : Nat) : Int) = 6148914691236517205 from rfl] at e1 e2
  rw [show (x : Int) / 2 = ((x / 2 : Nat) : Int) by omega, e1, e2, IntKind.wrap_u64]
  unfold hopOne hop
  rw [Nat.shiftRight_eq_div_pow, Nat.pow_one]
  omega
theorem hopTwo_int (x : Nat) (h : x < 16777216) :
    IntKind.u64.wrap (bits .and .u64 ((x : Int) / 4) 3689348814741910323 + bits .and .u64 (x : Int) 3689348814741910323) = ((hopTwo x : Nat) : Int) := by
  have l1 := and_le (x / 4) 3689348814741910323
  have l2 := and_le x 3689348814741910323
  have e1 := u64_and_nat (x / 4) 3689348814741910323 (by omega) (by omega)
  have e2 := u64_and_nat x 3689348814741910323 (by omega) (by omega)
  rw [show ((3689348814741910323 : Nat) : Int) = 3689348814741910323 from rfl] at e1 e2
  rw [show (x : Int) / 4 = ((x / 4 : Nat) : Int) by omega, e1, e2, IntKind.wrap_u64]
  unfold hopTwo hop
  rw [Nat.shiftRight_eq_div_pow, show (2 : Nat) ^ 2 = 4 from rfl]
  omega
theorem hopFour_int (x : Nat) (h : x < 16777216) :
    bits .and .u64 (IntKind.u64.wrap ((x : Int) / 16 + (x : Int))) 1085102592571150095 = ((hopFour x : Nat) : Int) := by
  have e1 := u64_and_nat (x / 16 + x) 1085102592571150095 (by omega) (by omega)
  rw [show ((1085102592571150095 : Nat) : Int) = 1085102592571150095 from rfl] at e1
  rw [show IntKind.u64.wrap ((x : Int) / 16 + (x : Int)) = ((x / 16 + x : Nat) : Int) by rw [IntKind.wrap_u64]; omega, e1]
  unfold hopFour
  rw [Nat.shiftRight_eq_div_pow, show (2 : Nat) ^ 4 = 16 from rfl]
theorem hops_lt (x : Nat) (h : x < 16777216) : hopOne x < 16777216 ∧ hopTwo (hopOne x) < 16777216 := by
  obtain ⟨a1, a2, a5, a3, a4⟩ := hop_lt ⟨x % 256, by omega⟩
  obtain ⟨b1, b2, b5, b3, b4⟩ := hop_lt ⟨x / 256 % 256, by omega⟩
  obtain ⟨c1, c2, c5, c3, c4⟩ := hop_lt ⟨x / 65536, by omega⟩
  rw [hopOne_eq x h, hopTwo_eq _ _ _ a1 b1 c1]
  have a1 : hop 1 85 (x % 256) < 256 := a1
  have b1 : hop 1 85 (x / 256 % 256) < 256 := b1
  have c1 : hop 1 85 (x / 65536) < 256 := c1
  have a2 : hop 2 51 (hop 1 85 (x % 256)) < 69 := a2
  have b2 : hop 2 51 (hop 1 85 (x / 256 % 256)) < 69 := b2
  have c2 : hop 2 51 (hop 1 85 (x / 65536)) < 69 := c2
  refine ⟨?_, ?_⟩
  · omega
  · omega

theorem mod_fin (t r s : Nat) (ht : t ≤ 16) (hr : r ≤ 8) : ((t + r + 256 * s + 65536 * r : Nat) : Int) % 128 = ((t + r : Nat) : Int) := by omega
set_option maxHeartbeats 1000000 in
theorem onesCount_any (m : Nat) (w : World) (hm : m < 16777216) :
    Calls Tryd.prog 63 #[.int .u64 m] w fun e w' => e = .returned (.int .i64 (bits24 m)) ∧ w = w' := by
  go_enter Tryd.func63, Tryd.ntmps63
  go_wp2
  go_ret
  refine ⟨ret_int ?_, rfl⟩
  obtain ⟨l1, l2⟩ := hops_lt m hm
  obtain ⟨p, q, r, e, hs, hp, hq, hr⟩ := ones_eq m hm
  rw [hopOne_int m hm, hopTwo_int _ l1, hopFour_int _ l2, e, ← hs]
  clear e hs l1 l2
  rw [show IntKind.u64.wrap (((p + 256 * q + 65536 * r : Nat) : Int) + ((p + 256 * q + 65536 * r : Nat) : Int) / 256) = ((p + q + 256 * (q + r) + 65536 * r : Nat) : Int) by rw [IntKind.wrap_u64]; omega]
  have hs' : q + r ≤ 16 := by omega
  have ht' : p + q ≤ 16 := by omega
  generalize q + r = s, p + q = t at *
  have d1 : ((t + 256 * s + 65536 * r : Nat) : Int) / 65536 = (r : Int) := by omega
  have d2 : ((t + r + 256 * s + 65536 * r : Nat) : Int) / 4294967296 = 0 := by omega
  have d3 : IntKind.u64.wrap (((t + 256 * s + 65536 * r : Nat) : Int) + (r : Int)) = ((t + r + 256 * s + 65536 * r : Nat) : Int) := by rw [IntKind.wrap_u64]; omega
  have d4 : IntKind.u64.wrap (((t + r + 256 * s + 65536 * r : Nat) : Int) + 0) = ((t + r + 256 * s + 65536 * r : Nat) : Int) := by rw [IntKind.wrap_u64]; omega
  have d5 : wrap64 ((t + r + 256 * s + 65536 * r : Nat) : Int) = ((t + r + 256 * s + 65536 * r : Nat) : Int) := by unfold wrap64; omega
  rw [d1, d3, d2, d4, d5, i64_and127]
  exact mod_fin t r s ht' hr

theorem mask_small {l : List Int} (h : IsS l 24) : mask l < 16777216 := Nat.lt_of_lt_of_le (mask_lt (n := 24) h.2) (by decide)
theorem bits24_mask {l : List Int} (h : IsS l 24) : bits24 (mask l) = l.length := by
  rw [bits24_count _ (mask_small h)]
  have e := facs_of (n := 24) h
  have h2 : (facs 24 fun p => decide ((p : Int) ∈ l)).length = (List.range 24).countP (fun p : Nat => decide ((p : Int) ∈ l)) := by
    unfold facs
    rw [List.length_map, List.countP_eq_length_filter]
  rw [e] at h2
  rw [h2]
  apply List.countP_congr
  intro p _
  rw [mask_bit (fun x hx => (h.2 x hx).1)]
theorem len_any (l : List Int) (w : World) (h : IsS l 24) :
    Calls Tryd.prog 43 #[.int .u64 (mask l)] w fun e w' => e = .returned (.int .i64 l.length) ∧ w = w' := by
  have H := Lib.hid (bits24_mask h)
  have HS := Lib.hid (mask_small h)
  clear h
  go_enter Tryd.func43, Tryd.ntmps43
  have HC := onesCount_any (mask l) w HS.out
  go_wp2_with (go_at_call 63; (with_reducible refine HC.mono ?_); rintro e w' ⟨rfl, rfl⟩)
  go_ret
  exact ⟨ret_int (by rw [H.out]), rfl⟩
end Go.Proofs.YtenmegkokclolaaDoor
