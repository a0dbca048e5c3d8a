/- Vpc, Vbr, Vin, Vip in one text. -/
import Derived.Test.YtiaobanloakplaaDoorKA
import Derived.Laws.Bits128
import Derived.Test.YtiaobanloakplaaDoorMB
import Derived.Test.YtiaobanloakplaaDoorKC
import Derived.Deep.RegionHeld3

/- math/bits.OnesCount64 of a number below 2^24. -/
section
namespace Go.Proofs.YtiaobanloakplaaDoor
open Go.RowKit
set_option linter.unusedSimpArgs false
set_option linter.unusedVariables false
set_option maxRecDepth 100000

theorem and_split (x m M k : Nat) (hk : k < 8) (hm : m < 2 ^ (8 - k)) :
    (x >>> k) &&& (m + 256 * M) = (((x % 256) >>> k) &&& m) + 256 * (((x / 256) >>> k) &&& M) := by
  have hm8 : m < 256 := Nat.lt_of_lt_of_le hm (by rw [show (256 : Nat) = 2 ^ 8 from rfl]; exact Nat.pow_le_pow_right (by omega) (by omega))
  have e1 : ((x >>> k) &&& (m + 256 * M)) % 256 = ((x % 256) >>> k) &&& m := by
    rw [show (256 : Nat) = 2 ^ 8 from rfl, Nat.and_mod_two_pow, show (m + 2 ^ 8 * M) % 2 ^ 8 = m by omega]
    apply Nat.eq_of_testBit_eq
    intro i
    simp only [Nat.testBit_and, Nat.testBit_mod_two_pow, Nat.testBit_shiftRight]
    rcases Nat.lt_or_ge i (8 - k) with h | h
    · simp [show i < 8 by omega, show k + i < 8 by omega]
    · have : m.testBit i = false := Nat.testBit_lt_two_pow (Nat.lt_of_lt_of_le hm (Nat.pow_le_pow_right (by omega) h))
      simp [this]
  have e2 : ((x >>> k) &&& (m + 256 * M)) / 256 = ((x / 256) >>> k) &&& M := by
    rw [show (256 : Nat) = 2 ^ 8 from rfl, Nat.and_div_two_pow, show (m + 2 ^ 8 * M) / 2 ^ 8 = M by omega, Nat.shiftRight_eq_div_pow, Nat.shiftRight_eq_div_pow, Nat.div_div_eq_div_mul, Nat.div_div_eq_div_mul, Nat.mul_comm]
  omega

def hop (k m x : Nat) : Nat := ((x >>> k) &&& m) + (x &&& m)
theorem hop_split (x m M k : Nat) (hk : k < 8) (hm : m < 2 ^ (8 - k)) : hop k (m + 256 * M) x = hop k m (x % 256) + 256 * hop k M (x / 256) := by
  have h0 := and_split x m M 0 (by omega) (Nat.lt_of_lt_of_le hm (Nat.pow_le_pow_right (by omega) (by omega)))
  have h1 := and_split x m M k hk hm
  simp only [Nat.shiftRight_zero] at h0
  unfold hop
  rw [h0, h1]
  omega
def bits8 (a : Nat) : Nat := a % 2 + a / 2 % 2 + a / 4 % 2 + a / 8 % 2 + a / 16 % 2 + a / 32 % 2 + a / 64 % 2 + a / 128 % 2
theorem hop_lt : ∀ a : Fin 256, hop 1 85 a.val < 256 ∧ hop 2 51 (hop 1 85 a.val) < 69 ∧ hop 2 51 (hop 1 85 a.val) % 16 < 5 ∧
    ((hop 2 51 (hop 1 85 a.val)) + (hop 2 51 (hop 1 85 a.val)) / 16) % 16 = bits8 a.val ∧ bits8 a.val ≤ 8 := by decide +kernel
theorem hop_zero (k m : Nat) : hop k m 0 = 0 := by simp [hop]
def hopOne (x : Nat) : Nat := hop 1 6148914691236517205 x
def hopTwo (x : Nat) : Nat := hop 2 3689348814741910323 x
def hopFour (x : Nat) : Nat := ((x >>> 4) + x) &&& 1085102592571150095
theorem hopOne_eq (x : Nat) (h : x < 16777216) : hopOne x = hop 1 85 (x % 256) + 256 * hop 1 85 (x / 256 % 256) + 65536 * hop 1 85 (x / 65536) := by
  unfold hopOne
  rw [show (6148914691236517205 : Nat) = 85 + 256 * (85 + 256 * (85 + 256 * 366503875925)) from rfl]
  rw [hop_split _ 85 _ 1 (by omega) (by omega), hop_split _ 85 _ 1 (by omega) (by omega), hop_split _ 85 _ 1 (by omega) (by omega)]
  rw [show x / 256 / 256 / 256 = 0 by omega, hop_zero, show x / 256 / 256 = x / 65536 by omega, show x / 65536 % 256 = x / 65536 by omega]
  omega
theorem hopTwo_eq (a b c : Nat) (ha : a < 256) (hb : b < 256) (hc : c < 256) : hopTwo (a + 256 * b + 65536 * c) = hop 2 51 a + 256 * hop 2 51 b + 65536 * hop 2 51 c := by
  unfold hopTwo
  rw [show (3689348814741910323 : Nat) = 51 + 256 * (51 + 256 * (51 + 256 * 219902325555)) from rfl]
  rw [hop_split _ 51 _ 2 (by omega) (by omega), hop_split _ 51 _ 2 (by omega) (by omega), hop_split _ 51 _ 2 (by omega) (by omega)]
  rw [show (a + 256 * b + 65536 * c) / 256 / 256 / 256 = 0 by omega, hop_zero, show (a + 256 * b + 65536 * c) / 256 / 256 % 256 = c by omega, show (a + 256 * b + 65536 * c) / 256 % 256 = b by omega, show (a + 256 * b + 65536 * c) % 256 = a by omega]
  omega
theorem low4 (y M : Nat) : y &&& (15 + 256 * M) = y % 16 + 256 * ((y / 256) &&& M) := by
  have h := and_split y 15 M 0 (by omega) (by omega)
  simp only [Nat.shiftRight_zero] at h
  rw [h, show (15 : Nat) = 2 ^ 4 - 1 from rfl, Nat.and_two_pow_sub_one_eq_mod]
  omega
theorem hopFour_eq (a b c : Nat) (ha : a < 69) (hb : b < 69) (hc : c < 69) (hb' : b % 16 < 5) (hc' : c % 16 < 5) :
    hopFour (a + 256 * b + 65536 * c) = (a + a / 16) % 16 + 256 * ((b + b / 16) % 16) + 65536 * ((c + c / 16) % 16) := by
  unfold hopFour
  rw [show (1085102592571150095 : Nat) = 15 + 256 * (15 + 256 * (15 + 256 * 64677154575)) from rfl, low4, low4, low4, Nat.shiftRight_eq_div_pow]
  have hy : (a + 256 * b + 65536 * c) / 2 ^ 4 + (a + 256 * b + 65536 * c) = (a + a / 16 + 16 * (b % 16)) + 256 * (b + b / 16 + 16 * (c % 16)) + 65536 * (c + c / 16) := by omega
  have hA : a + a / 16 + 16 * (b % 16) < 256 := by omega
  have hB : b + b / 16 + 16 * (c % 16) < 256 := by omega
  have hC : c + c / 16 < 256 := by omega
  have h1 : (a + a / 16 + 16 * (b % 16)) % 16 = (a + a / 16) % 16 := by omega
  have h2 : (b + b / 16 + 16 * (c % 16)) % 16 = (b + b / 16) % 16 := by omega
  rw [hy, ← h1, ← h2]
  generalize a + a / 16 + 16 * (b % 16) = A at hA ⊢
  generalize b + b / 16 + 16 * (c % 16) = B at hB ⊢
  generalize c + c / 16 = C at hC ⊢
  rw [show (A + 256 * B + 65536 * C) / 256 / 256 / 256 = 0 by omega, Nat.zero_and, show (A + 256 * B + 65536 * C) / 256 / 256 = C by omega, show (A + 256 * B + 65536 * C) / 256 % 16 = B % 16 by omega, show (A + 256 * B + 65536 * C) % 16 = A % 16 by omega]
  omega
def bits24 (x : Nat) : Nat := bits8 (x % 256) + bits8 (x / 256 % 256) + bits8 (x / 65536)
theorem ones_eq (x : Nat) (h : x < 16777216) : ∃ p q r, hopFour (hopTwo (hopOne x)) = p + 256 * q + 65536 * r ∧ p + q + r = bits24 x ∧ p ≤ 8 ∧ q ≤ 8 ∧ r ≤ 8 := by
  obtain ⟨a1, a2, a5, a3, a4⟩ := hop_lt ⟨x % 256, by omega⟩
  obtain ⟨b1, b2, b5, b3, b4⟩ := hop_lt ⟨x / 256 % 256, by omega⟩
  obtain ⟨c1, c2, c5, c3, c4⟩ := hop_lt ⟨x / 65536, by omega⟩
  rw [hopOne_eq x h, hopTwo_eq _ _ _ a1 b1 c1, hopFour_eq _ _ _ a2 b2 c2 b5 c5]
  exact ⟨_, _, _, rfl, by rw [a3, b3, c3]; rfl, by rw [a3]; exact a4, by rw [b3]; exact b4, by rw [c3]; exact c4⟩
theorem bits8_count : ∀ a : Fin 256, bits8 a.val = (List.range 8).countP a.val.testBit := by decide +kernel
theorem bits8_part (x k : Nat) : (List.range 8).countP (x / 2 ^ k % 256).testBit = (List.range 8).countP (fun i => x.testBit (k + i)) := by
  apply List.countP_congr
  intro i hi
  have h8 : i < 8 := by simpa using hi
  rw [show (256 : Nat) = 2 ^ 8 from rfl, Nat.testBit_mod_two_pow, Nat.testBit_div_two_pow]
  simp [h8, Nat.add_comm]
theorem bits24_count (x : Nat) (h : x < 16777216) : bits24 x = (List.range 24).countP x.testBit := by
  have h0 := bits8_count ⟨x % 256, by omega⟩
  have h1 := bits8_count ⟨x / 256 % 256, by omega⟩
  have h2 := bits8_count ⟨x / 65536 % 256, by omega⟩
  have p0 := bits8_part x 0
  have p1 := bits8_part x 8
  have p2 := bits8_part x 16
  simp only [Nat.pow_zero, Nat.div_one, Nat.zero_add] at p0
  rw [show (2 : Nat) ^ 8 = 256 from rfl] at p1
  rw [show (2 : Nat) ^ 16 = 65536 from rfl] at p2
  unfold bits24
  rw [show x / 65536 = x / 65536 % 256 by omega, h0, h1, h2, p0, p1, p2]
  rw [show List.range 24 = List.range 8 ++ (List.range 8).map (8 + ·) ++ (List.range 8).map (16 + ·) from rfl]
  rw [List.countP_append, List.countP_append, List.countP_map, List.countP_map]
  rfl

theorem div_cast (x k : Nat) : (x : Int) / (k : Int) = ((x / k : Nat) : Int) := by simp
theorem and_le (x m : Nat) : x &&& m ≤ x := Nat.and_le_left
theorem hopOne_int (x : Nat) (h : x < 16777216) :
    IntKind.u64.wrap (bits .and .u64 ((x : Int) / 2) 6148914691236517205 + bits .and .u64 (x : Int) 6148914691236517205) = ((hopOne x : Nat) : Int) := by
  have l1 := and_le (x / 2) 6148914691236517205
  have l2 := and_le x 6148914691236517205
  have e1 := u64_and_nat (x / 2) 6148914691236517205 (by omega) (by omega)
  have e2 := u64_and_nat x 6148914691236517205 (by omega) (by omega)
  rw [show ((6148914691236517205 : Nat) : Int) = 6148914691236517205 from rfl] at e1 e2
  rw [show (x : Int) / 2 = ((x / 2 : Nat) : Int) by omega, e1, e2, IntKind.wrap_u64]
  unfold hopOne hop
  rw [Nat.shiftRight_eq_div_pow, Nat.pow_one]
  omega
theorem hopTwo_int (x : Nat) (h : x < 16777216) :
    IntKind.u64.wrap (bits .and .u64 ((x : Int) / 4) 3689348814741910323 + bits .and .u64 (x : Int) 3689348814741910323) = ((hopTwo x : Nat) : Int) := by
  have l1 := and_le (x / 4) 3689348814741910323
  have l2 := and_le x 3689348814741910323
  have e1 := u64_and_nat (x / 4) 3689348814741910323 (by omega) (by omega)
  have e2 := u64_and_nat x 3689348814741910323 (by omega) (by omega)
  rw [show ((3689348814741910323 : Nat) : Int) = 3689348814741910323 from rfl] at e1 e2
  rw [show (x : Int) / 4 = ((x / 4 : Nat) : Int) by omega, e1, e2, IntKind.wrap_u64]
  unfold hopTwo hop
  rw [Nat.shiftRight_eq_div_pow, show (2 : Nat) ^ 2 = 4 from rfl]
  omega
theorem hopFour_int (x : Nat) (h : x < 16777216) :
    bits .and .u64 (IntKind.u64.wrap ((x : Int) / 16 + (x : Int))) 1085102592571150095 = ((hopFour x : Nat) : Int) := by
  have e1 := u64_and_nat (x / 16 + x) 1085102592571150095 (by omega) (by omega)
  rw [show ((1085102592571150095 : Nat) : Int) = 1085102592571150095 from rfl] at e1
  rw [show IntKind.u64.wrap ((x : Int) / 16 + (x : Int)) = ((x / 16 + x : Nat) : Int) by rw [IntKind.wrap_u64]; omega, e1]
  unfold hopFour
  rw [Nat.shiftRight_eq_div_pow, show (2 : Nat) ^ 4 = 16 from rfl]
theorem hops_lt (x : Nat) (h : x < 16777216) : hopOne x < 16777216 ∧ hopTwo (hopOne x) < 16777216 := by
  obtain ⟨a1, a2, a5, a3, a4⟩ := hop_lt ⟨x % 256, by omega⟩
  obtain ⟨b1, b2, b5, b3, b4⟩ := hop_lt ⟨x / 256 % 256, by omega⟩
  obtain ⟨c1, c2, c5, c3, c4⟩ := hop_lt ⟨x / 65536, by omega⟩
  rw [hopOne_eq x h, hopTwo_eq _ _ _ a1 b1 c1]
  have a1 : hop 1 85 (x % 256) < 256 := a1
  have b1 : hop 1 85 (x / 256 % 256) < 256 := b1
  have c1 : hop 1 85 (x / 65536) < 256 := c1
  have a2 : hop 2 51 (hop 1 85 (x % 256)) < 69 := a2
  have b2 : hop 2 51 (hop 1 85 (x / 256 % 256)) < 69 := b2
  have c2 : hop 2 51 (hop 1 85 (x / 65536)) < 69 := c2
  refine ⟨?_, ?_⟩
  · omega
  · omega

theorem mod_fin (t r s : Nat) (ht : t ≤ 16) (hr : r ≤ 8) : ((t + r + 256 * s + 65536 * r : Nat) : Int) % 128 = ((t + r : Nat) : Int) := by omega
set_option maxHeartbeats 1000000 in
theorem onesCount_any (m : Nat) (w : World) (hm : m < 16777216) :
    Calls Tryd.prog 93 #[.int .u64 m] w fun e w' => e = .returned (.int .i64 (bits24 m)) ∧ w = w' := by
  go_enter Tryd.func93, Tryd.ntmps93
  go_wp2
  go_ret
  refine ⟨ret_int ?_, rfl⟩
  obtain ⟨l1, l2⟩ := hops_lt m hm
  obtain ⟨p, q, r, e, hs, hp, hq, hr⟩ := ones_eq m hm
  rw [hopOne_int m hm, hopTwo_int _ l1, hopFour_int _ l2, e, ← hs]
  clear e hs l1 l2
  rw [show IntKind.u64.wrap (((p + 256 * q + 65536 * r : Nat) : Int) + ((p + 256 * q + 65536 * r : Nat) : Int) / 256) = ((p + q + 256 * (q + r) + 65536 * r : Nat) : Int) by rw [IntKind.wrap_u64]; omega]
  have hs' : q + r ≤ 16 := by omega
  have ht' : p + q ≤ 16 := by omega
  generalize q + r = s, p + q = t at *
  have d1 : ((t + 256 * s + 65536 * r : Nat) : Int) / 65536 = (r : Int) := by omega
  have d2 : ((t + r + 256 * s + 65536 * r : Nat) : Int) / 4294967296 = 0 := by omega
  have d3 : IntKind.u64.wrap (((t + 256 * s + 65536 * r : Nat) : Int) + (r : Int)) = ((t + r + 256 * s + 65536 * r : Nat) : Int) := by rw [IntKind.wrap_u64]; omega
  have d4 : IntKind.u64.wrap (((t + r + 256 * s + 65536 * r : Nat) : Int) + 0) = ((t + r + 256 * s + 65536 * r : Nat) : Int) := by rw [IntKind.wrap_u64]; omega
  have d5 : wrap64 ((t + r + 256 * s + 65536 * r : Nat) : Int) = ((t + r + 256 * s + 65536 * r : Nat) : Int) := by unfold wrap64; omega
  rw [d1, d3, d2, d4, d5, i64_and127]
  exact mod_fin t r s ht' hr

theorem mask_small {l : List Int} (h : IsS l 24) : mask l < 16777216 := Nat.lt_of_lt_of_le (mask_lt (n := 24) h.2) (by decide)
theorem bits24_mask {l : List Int} (h : IsS l 24) : bits24 (mask l) = l.length := by
  rw [bits24_count _ (mask_small h)]
  have e := facs_of (n := 24) h
  have h2 : (facs 24 fun p => decide ((p : Int) ∈ l)).length = (List.range 24).countP (fun p : Nat => decide ((p : Int) ∈ l)) := by
    unfold facs
    rw [List.length_map, List.countP_eq_length_filter]
  rw [e] at h2
  rw [h2]
  apply List.countP_congr
  intro p _
  rw [mask_bit (fun x hx => (h.2 x hx).1)]
theorem len_any (l : List Int) (w : World) (h : IsS l 24) :
    Calls Tryd.prog 86 #[.int .u64 (mask l)] w fun e w' => e = .returned (.int .i64 l.length) ∧ w = w' := by
  have H := Lib.hid (bits24_mask h)
  have HS := Lib.hid (mask_small h)
  clear h
  go_enter Tryd.func86, Tryd.ntmps86
  have HC := onesCount_any (mask l) w HS.out
  go_wp2_with (go_at_call 93; (with_reducible refine HC.mono ?_); rintro e w' ⟨rfl, rfl⟩)
  go_ret
  exact ⟨ret_int (by rw [H.out]), rfl⟩
end Go.Proofs.YtiaobanloakplaaDoor
end

/- Package invariant: breaks, inductive. -/
section
namespace Go.Proofs.YtiaobanloakplaaDoor
open Go.RowKit
set_option linter.unusedSimpArgs false
set_option linter.unusedVariables false
set_option maxRecDepth 100000

/-- What is in both lists; what is in the first alone. -/
def metL (a b : List Int) : List Int := facs 24 (fun p => decide ((p : Int) ∈ a) && decide ((p : Int) ∈ b))
def difL (a b : List Int) : List Int := facs 24 (fun p => decide ((p : Int) ∈ a) && !decide ((p : Int) ∈ b))
theorem mem_metL {a b : List Int} (ha : IsS a 24) {x : Int} : x ∈ metL a b ↔ x ∈ a ∧ x ∈ b := by
  unfold metL
  rw [mem_facs, Bool.and_eq_true, decide_eq_true_eq, decide_eq_true_eq]
  constructor
  · rintro ⟨h0, h1, h2, h3⟩
    rw [Int.toNat_of_nonneg h0] at h2 h3
    exact ⟨h2, h3⟩
  · rintro ⟨h2, h3⟩
    obtain ⟨h0, h1⟩ := ha.2 x h2
    rw [Int.toNat_of_nonneg h0]
    exact ⟨h0, h1, h2, h3⟩
theorem mem_difL {a b : List Int} (ha : IsS a 24) {x : Int} : x ∈ difL a b ↔ x ∈ a ∧ x ∉ b := by
  unfold difL
  rw [mem_facs, Bool.and_eq_true, decide_eq_true_eq, Bool.not_eq_true', decide_eq_false_iff_not]
  constructor
  · rintro ⟨h0, h1, h2, h3⟩
    rw [Int.toNat_of_nonneg h0] at h2 h3
    exact ⟨h2, h3⟩
  · rintro ⟨h2, h3⟩
    obtain ⟨h0, h1⟩ := ha.2 x h2
    rw [Int.toNat_of_nonneg h0]
    exact ⟨h0, h1, h2, h3⟩
theorem metL_isS (a b : List Int) : IsS (metL a b) 24 := facs_isS _ _
theorem difL_isS (a b : List Int) : IsS (difL a b) 24 := facs_isS _ _
theorem met_bits {a b : List Int} (ha : IsS a 24) (hb : IsS b 24) : bits .and .u64 (mask a : Int) (mask b : Int) = (mask (metL a b) : Int) := by
  rw [u64_and_nat _ _ (mask_lt64 ha) (mask_lt64 hb)]
  congr 1
  apply Nat.eq_of_testBit_eq
  intro p
  rw [Nat.testBit_and, mask_bit (fun x hx => (ha.2 x hx).1), mask_bit (fun x hx => (hb.2 x hx).1), mask_bit (fun x hx => ((metL_isS a b).2 x hx).1)]
  rw [Bool.eq_iff_iff, Bool.and_eq_true, decide_eq_true_eq, decide_eq_true_eq, decide_eq_true_eq, mem_metL ha]
theorem dif_bits {a b : List Int} (ha : IsS a 24) (hb : IsS b 24) : bits .andNot .u64 (mask a : Int) (mask b : Int) = (mask (difL a b) : Int) := by
  rw [u64_andNot_nat _ _ (mask_lt64 ha) (mask_lt64 hb)]
  congr 1
  apply Nat.eq_of_testBit_eq
  intro p
  rw [Nat.testBit_and, bit_not (mask_lt64 hb), mask_bit (fun x hx => (ha.2 x hx).1), mask_bit (fun x hx => (hb.2 x hx).1), mask_bit (fun x hx => ((difL_isS a b).2 x hx).1)]
  rw [Bool.eq_iff_iff]
  simp only [Bool.and_eq_true, decide_eq_true_eq, Bool.not_eq_true', decide_eq_false_iff_not, mem_difL ha]
  constructor
  · rintro ⟨h1, h2, h3⟩; exact ⟨h1, h3⟩
  · rintro ⟨h1, h3⟩; exact ⟨h1, by have := (ha.2 _ h1).2; omega, h3⟩
theorem dif_bits_ne {a b : List Int} (ha : IsS a 24) (hb : IsS b 24) : (bits .andNot .u64 (mask a : Int) (mask b : Int) != 0) = !subB a b := by
  rw [bne, u64_andNot_nat _ _ (mask_lt64 ha) (mask_lt64 hb), zero_cast, andNot_zero ha hb]
theorem lenM_any {a b : List Int} (ha : IsS a 24) (hb : IsS b 24) (w : World) :
    Calls Tryd.prog 86 #[.int .u64 (bits .and .u64 (mask a : Int) (mask b : Int))] w fun e w' => e = .returned (.int .i64 (metL a b).length) ∧ w = w' := by
  rw [met_bits ha hb]
  exact len_any _ w (metL_isS a b)

/-- The facts of a group of which one can be true before an operator; those of them that it leaves. -/
def bfL (o : Opr) (g : List Int) : List Int := if disB o.pre g then g else metL o.pre g
def rmL (o : Opr) (g : List Int) : List Int := difL (bfL o g) o.del
def brkB (o : Opr) (g : List Int) : Bool :=
  if 1 < (metL o.pre g).length then false else decide (1 < (metL o.add g).length) || (decide ((metL o.add g).length = 1) && !subB (rmL o g) (metL o.add g))
theorem bfL_isS {o : Opr} {g : List Int} (hg : IsS g 24) : IsS (bfL o g) 24 := by
  unfold bfL; split
  · exact hg
  · exact metL_isS _ _
theorem left_bits {o : Opr} {g : List Int} (ho : OpS o 24) (hg : IsS g 24) :
    (bits .andNot .u64 (bits .andNot .u64 (mask (bfL o g) : Int) (mask o.del : Int)) (bits .and .u64 (mask o.add : Int) (mask g : Int)) != 0) = !subB (rmL o g) (metL o.add g) := by
  rw [dif_bits (bfL_isS hg) ho.del, met_bits ho.add hg, dif_bits_ne (difL_isS _ _) (metL_isS _ _)]
  rfl

set_option maxHeartbeats 2000000 in
theorem breaks_any (o : Opr) (g : List Int) (a1 a2 a3 : Option Addr) (c1 c2 c3 : Nat) (w : World) (hO : OpS o 24) (hg : IsS g 24) (hV : OpV w w.heap.size o a1 a2 a3 c1 c2 c3) :
    Calls Tryd.prog 89 #[.agg #[.slice a1 o.pre.length c1, .slice a2 o.add.length c2, .slice a3 o.del.length c3, .int .i64 o.cost], .int .u64 (mask g)] w fun e w' => e = .returned (.bool (brkB o g)) ∧ Below w.heap.size w w' := by
  have hb1 : Below w.heap.size w (w.alloc (.cells #[.slice a1 o.pre.length c1, .slice a2 o.add.length c2, .slice a3 o.del.length c3, .int .i64 o.cost] 79)) := by go_grown
  have HV := Lib.hid (hV.to hb1 hb1.size)
  have HP := Lib.hid (show IsS o.pre 24 from hO.pre)
  have HA := Lib.hid (show IsS o.add 24 from hO.add)
  have HD := Lib.hid (show IsS o.del 24 from hO.del)
  have HG := Lib.hid hg
  have HL := Lib.hid (left_bits hO hg)
  have HNE := and_bits_ne hO.pre hg
  clear hV hO hg hb1
  by_cases h1 : 1 < (metL o.pre g).length
  · have H := Lib.hid (show brkB o g = false by unfold brkB; rw [if_pos h1])
    have d1 : decide ((1 : Int) < (metL o.pre g).length) = true := decide_eq_true (by omega)
    clear h1 HL
    go_enter Tryd.func89, Tryd.ntmps89
    go_wp2
    go_quiet (first | (go_at_call 40; (with_reducible refine quiet_same (setOf_any a1 c1 o.pre _ HP.out ?_)); exact HV.out.pre.nums) | (go_at_call 40; (with_reducible refine quiet_same (setOf_any a2 c2 o.add _ HA.out ?_)); exact HV.out.add.nums))
    go_wp2_with (go_at_call 86; (with_reducible refine (lenM_any HP.out HG.out _).mono ?_); rintro e w' ⟨rfl, rfl⟩)
    go_ret
    exact ⟨ret_val (by rw [H.out]; rfl), belowN (by go_grown) _⟩
  have d1 : decide ((1 : Int) < (metL o.pre g).length) = false := decide_eq_false (by omega)
  have HB0 : brkB o g = (decide (1 < (metL o.add g).length) || (decide ((metL o.add g).length = 1) && !subB (rmL o g) (metL o.add g))) := by unfold brkB; rw [if_neg h1]
  clear h1
  unfold bfL at HL
  cases hd : disB o.pre g
  all_goals
    rw [hd] at HNE HL
    simp only [Bool.not_false, Bool.not_true, ite_true, Bool.false_eq_true, ite_false] at HNE HL
    first | rw [← met_bits HP.out HG.out] at HL | skip
    clear hd
    by_cases h2 : 1 < (metL o.add g).length
    · have H := Lib.hid (show brkB o g = true by rw [HB0, decide_eq_true h2]; rfl)
      have d2 : decide ((1 : Int) < (metL o.add g).length) = true := decide_eq_true (by omega)
      clear h2 HL HB0
      go_enter Tryd.func89, Tryd.ntmps89
      go_wp2
      go_quiet (first | (go_at_call 40; (with_reducible refine quiet_same (setOf_any a1 c1 o.pre _ HP.out ?_)); exact HV.out.pre.nums) | (go_at_call 40; (with_reducible refine quiet_same (setOf_any a2 c2 o.add _ HA.out ?_)); exact HV.out.add.nums))
      go_wp2_with (first | (go_at_call 40; (with_reducible refine (setOf_any a3 c3 o.del _ HD.out ?_).mono ?_); (exact HV.out.del.nums); rintro e w' ⟨rfl, rfl⟩) | (go_at_call 86; (with_reducible refine (lenM_any HP.out HG.out _).mono ?_); rintro e w' ⟨rfl, rfl⟩) | (go_at_call 86; (with_reducible refine (lenM_any HA.out HG.out _).mono ?_); rintro e w' ⟨rfl, rfl⟩))
      go_ret
      exact ⟨ret_val (by rw [H.out]; rfl), belowN (by go_grown) _⟩
    have d2 : decide ((1 : Int) < (metL o.add g).length) = false := decide_eq_false (by omega)
    by_cases h3 : (metL o.add g).length = 1
    · have H := Lib.hid (show brkB o g = !subB (rmL o g) (metL o.add g) by rw [HB0, decide_eq_false h2, decide_eq_true h3]; rfl)
      have d3 : (((metL o.add g).length : Int) == 1) = true := by simp [h3]
      clear h2 h3 HB0
      have HL' := Lib.hid HL
      clear HL
      go_enter Tryd.func89, Tryd.ntmps89
      go_wp2
      go_quiet (first | (go_at_call 40; (with_reducible refine quiet_same (setOf_any a1 c1 o.pre _ HP.out ?_)); exact HV.out.pre.nums) | (go_at_call 40; (with_reducible refine quiet_same (setOf_any a2 c2 o.add _ HA.out ?_)); exact HV.out.add.nums))
      go_wp2_with (first | (go_at_call 40; (with_reducible refine (setOf_any a3 c3 o.del _ HD.out ?_).mono ?_); (exact HV.out.del.nums); rintro e w' ⟨rfl, rfl⟩) | (go_at_call 86; (with_reducible refine (lenM_any HP.out HG.out _).mono ?_); rintro e w' ⟨rfl, rfl⟩) | (go_at_call 86; (with_reducible refine (lenM_any HA.out HG.out _).mono ?_); rintro e w' ⟨rfl, rfl⟩))
      go_ret
      exact ⟨ret_val (by rw [H.out, ← HL'.out]; rfl), belowN (by go_grown) _⟩
    · have H := Lib.hid (show brkB o g = false by rw [HB0, decide_eq_false h2, decide_eq_false h3]; rfl)
      have d3 : (((metL o.add g).length : Int) == 1) = false := by simp; omega
      clear h2 h3 HB0 HL
      go_enter Tryd.func89, Tryd.ntmps89
      go_wp2
      go_quiet (first | (go_at_call 40; (with_reducible refine quiet_same (setOf_any a1 c1 o.pre _ HP.out ?_)); exact HV.out.pre.nums) | (go_at_call 40; (with_reducible refine quiet_same (setOf_any a2 c2 o.add _ HA.out ?_)); exact HV.out.add.nums))
      go_wp2_with (first | (go_at_call 40; (with_reducible refine (setOf_any a3 c3 o.del _ HD.out ?_).mono ?_); (exact HV.out.del.nums); rintro e w' ⟨rfl, rfl⟩) | (go_at_call 86; (with_reducible refine (lenM_any HP.out HG.out _).mono ?_); rintro e w' ⟨rfl, rfl⟩) | (go_at_call 86; (with_reducible refine (lenM_any HA.out HG.out _).mono ?_); rintro e w' ⟨rfl, rfl⟩))
      go_ret
      exact ⟨ret_val (by rw [H.out]; rfl), belowN (by go_grown) _⟩
end Go.Proofs.YtiaobanloakplaaDoor
end

/- Package invariant: inductive, Inductive. -/
section
namespace Go.Proofs.YtiaobanloakplaaDoor
open Go.RowKit
set_option linter.unusedSimpArgs false
set_option linter.unusedVariables false
set_option maxRecDepth 100000

set_option maxHeartbeats 1000000 in
theorem inCl_any (o : Opr) (g : List Int) (a1 a2 a3 : Option Addr) (c1 c2 c3 : Nat) (gb : Nat) (w : World) (hO : OpS o 24) (hg : IsS g 24) (hV : OpV w w.heap.size o a1 a2 a3 c1 c2 c3)
    (hgl : gb < w.heap.size) (hgc : w.cell? ⟨gb, 0, none⟩ = some (.int .u64 (mask g))) :
    Calls Tryd.prog 88 #[.agg #[.slice a1 o.pre.length c1, .slice a2 o.add.length c2, .slice a3 o.del.length c3, .int .i64 o.cost], .pointer (some ⟨gb, 0, none⟩)] w fun e w' => e = .returned (.bool (brkB o g)) ∧ Below w.heap.size w w' := by
  have hb1 : Below w.heap.size w (w.alloc (.cells #[.slice a1 o.pre.length c1, .slice a2 o.add.length c2, .slice a3 o.del.length c3, .int .i64 o.cost] 79)) := by go_grown
  have HC := breaks_any o g a1 a2 a3 c1 c2 c3 _ hO hg (hV.to hb1 hb1.size)
  have HG : (w.alloc (.cells #[.slice a1 o.pre.length c1, .slice a2 o.add.length c2, .slice a3 o.del.length c3, .int .i64 o.cost] 79)).cell? ⟨gb, 0, none⟩ = some (.int .u64 (mask g)) := (hb1.cell (p := ⟨gb, 0, none⟩) hgl).trans hgc
  have HB := Lib.hid hb1
  clear hV hO hg hb1 hgc
  go_enter Tryd.func88, Tryd.ntmps88
  go_wp2_with (go_at_call 89; (with_reducible refine HC.mono ?_); rintro e w2 ⟨rfl, hb2⟩)
  go_ret
  exact ⟨rfl, HB.out.trans (hb2.mono HB.out.size)⟩

set_option maxHeartbeats 2000000 in
theorem all_stepF {p : Nat → Bool} {k : Nat} (h : ∀ j, j < k → p j = false) (hk : p k = false) : ∀ j, j < k + 1 → p j = false := by
  intro j hj
  rcases Nat.lt_or_ge j k with h1 | h1
  · exact h j h1
  · have e : j = k := by omega
    rw [e]; exact hk
set_option maxHeartbeats 2000000 in
theorem indexO_any (A : Option Addr) (C : Nat) (l : List Opr) (g : List Int) (hl : ∀ k, k < l.length → OpS (opr l k) 24) (hg : IsS g 24) (gb : Nat) (w : World) (h1 : Oprs w w.heap.size A l) (hln : l.length ≤ maxLen)
    (hgl : gb < w.heap.size) (hgc : w.cell? ⟨gb, 0, none⟩ = some (.int .u64 (mask g))) :
    Calls Tryd.prog 94 #[.slice A l.length C, .func (.func 88) #[] #[.pointer (some ⟨gb, 0, none⟩)]] w fun e w' => e = .returned (.int .i64 (idxB (fun j => brkB (opr l j) g) l.length)) ∧ Below w.heap.size w w' := by
  unfold maxLen at hln
  have HL := Lib.hid hl
  have HS := Lib.hid hg
  have H1 := Lib.hid (fun (W : World) (h : Below w.heap.size w W) => h1.to h h.size)
  have HG := Lib.hid (fun (W : World) (h : Below w.heap.size w W) => (h.cell (p := ⟨gb, 0, none⟩) hgl).trans hgc)
  clear hl hg h1 hgc
  go_enter Tryd.func94, Tryd.ntmps94
  go_wp2
  go_loopw [8] (fun i wr => ∃ k : Nat, k ≤ l.length ∧ i = .int .i64 k ∧ Below w.heap.size w wr ∧ ∀ j, j < k → brkB (opr l j) g = false) (fun i _ => l.length - (intOf i).toNat)
  case atStart => exact ⟨0, by omega, rfl, Below.refl _ _, by omega⟩
  case round =>
    obtain ⟨k, hk, rfl, hbw, hj⟩ := hrel
    have HJ := Lib.hid hj
    have HB := Lib.hid hbw
    clear hj hbw
    by_cases hlt : k < l.length
    · obtain ⟨b, p, a1, a2, a3, c1, c2, c3, hA, hbl, ⟨q0, q1, q2, q3⟩, hf⟩ := (H1.out _ HB.out).at_ hlt
      subst hA
      have hE := inCl_any (opr l k) g a1 a2 a3 c1 c2 c3 gb wr (HL.out k hlt) HS.out hf (Nat.lt_of_lt_of_le hgl HB.out.size) (HG.out _ HB.out)
      clear hf
      cases hi : brkB (opr l k) g
      · rw [hi] at hE
        have HE := Lib.hid hE
        have HI := Lib.hid hi
        clear hE
        go_wp2_with (go_at_call 88; (with_reducible refine HE.out.mono ?_); rintro e w2 ⟨rfl, hb2⟩; have HB2 := Lib.hid (HB.out.trans (hb2.mono HB.out.size)); clear hb2)
        go_roundw
        case rel => exact ⟨k + 1, by omega, by go_num, HB2.out, all_stepF HJ.out HI.out⟩
        case measure => simp [intOf]; omega
      · rw [hi] at hE
        have HE := Lib.hid hE
        have HI := Lib.hid hi
        clear hE
        go_wp2_with (go_at_call 88; (with_reducible refine HE.out.mono ?_); rintro e w2 ⟨rfl, hb2⟩; have HB2 := Lib.hid (HB.out.trans (hb2.mono HB.out.size)); clear hb2)
        go_ret
        exact ⟨ret_int2 (idxB_hit hlt HI.out HJ.out).symm, HB2.out⟩
    · have hge : ¬ ((k : Int) < l.length) := by omega
      go_wp2
      go_ret
      exact ⟨ret_int2 (idxB_miss (fun j h => HJ.out j (by omega))).symm, HB.out⟩
set_option maxHeartbeats 400000 in
theorem containsO_any (A : Option Addr) (C : Nat) (l : List Opr) (g : List Int) (hl : ∀ k, k < l.length → OpS (opr l k) 24) (hg : IsS g 24) (gb : Nat) (w : World) (h1 : Oprs w w.heap.size A l) (hln : l.length ≤ maxLen)
    (hgl : gb < w.heap.size) (hgc : w.cell? ⟨gb, 0, none⟩ = some (.int .u64 (mask g))) :
    Calls Tryd.prog 87 #[.slice A l.length C, .func (.func 88) #[] #[.pointer (some ⟨gb, 0, none⟩)]] w fun e w' => e = .returned (.bool ((List.range l.length).any (fun j => brkB (opr l j) g))) ∧ Below w.heap.size w w' := by
  have HR := indexO_any A C l g hl hg gb w h1 hln hgl hgc
  have hI := idxB_has (fun j => brkB (opr l j) g) l.length
  clear hl hg h1 hgc
  go_enter Tryd.func87, Tryd.ntmps87
  go_wp2_with (go_at_call 94; refine HR.mono ?_; rintro e w' ⟨rfl, hbw⟩)
  go_ret
  exact ⟨rfl, hbw⟩

def indB (x : Tsk) (g : List Int) : Bool := decide ((metL x.init g).length ≤ 1) && !(List.range x.ops.length).any (fun j => brkB (opr x.ops j) g)
theorem OpS.up {o : Opr} {n : Nat} (h : OpS o n) (hn : n ≤ 24) : OpS o 24 := ⟨h.pre.mono (by omega), h.add.mono (by omega), h.del.mono (by omega)⟩
theorem Val.ops24 {x : Tsk} {n : Nat} (h : Val x n) : ∀ k, k < x.ops.length → OpS (opr x.ops k) 24 := fun k hk => (h.ops k hk).1.up h.le
set_option maxHeartbeats 1000000 in
theorem inductive_any (x : Tsk) (g : List Int) (w : World) (hX : TskIn w w.heap.size x) (hI : IsS x.init 24) (hO : ∀ k, k < x.ops.length → OpS (opr x.ops k) 24) (hg : IsS g 24) :
    Calls Tryd.prog 67 #[.agg #[.int .i64 x.n, .slice x.ai x.init.length x.ci, .slice x.ag x.goal.length x.cg, .slice x.ao x.ops.length x.co], .int .u64 (mask g)] w fun e w' => e = .returned (.bool (indB x g)) ∧ Below w.heap.size w w' := by
  have hln := hX.len
  have hb1 : Below w.heap.size w ((w.alloc (.cells #[.int .i64 x.n, .slice x.ai x.init.length x.ci, .slice x.ag x.goal.length x.cg, .slice x.ao x.ops.length x.co] 25)).alloc (.cells #[.int .u64 (mask g)] 67)) := by go_grown
  have HX2 := Lib.hid (hX.to hb1 hb1.size)
  have HO := Lib.hid (fun (n : Nat) => containsO_any x.ao x.co x.ops g hO hg (w.heap.size + 1) (((w.alloc (.cells #[.int .i64 x.n, .slice x.ai x.init.length x.ci, .slice x.ag x.goal.length x.cg, .slice x.ao x.ops.length x.co] 25)).alloc (.cells #[.int .u64 (mask g)] 67)).drewN n) (hX.to (belowN hb1 n) (belowN hb1 n).size).ops hln (by simp) (by simp))
  have HI := Lib.hid hI
  have HG := Lib.hid hg
  have HB := Lib.hid hb1
  clear hX hO hI hg hb1 hln
  by_cases h1 : (metL x.init g).length ≤ 1
  · have H := Lib.hid (show indB x g = !(List.range x.ops.length).any (fun j => brkB (opr x.ops j) g) by unfold indB; rw [decide_eq_true h1]; rfl)
    have d1 : decide (((metL x.init g).length : Int) ≤ 1) = true := decide_eq_true (by omega)
    clear h1
    go_enter Tryd.func67, Tryd.ntmps67
    go_wp2
    go_quiet (first | (go_at_call 40; (with_reducible refine quiet_same (setOf_any x.ai x.ci x.init _ HI.out ?_)); exact HX2.out.init.nums))
    go_wp2_with (first | (go_at_call 86; (with_reducible refine (lenM_any HI.out HG.out _).mono ?_); rintro e w' ⟨rfl, rfl⟩) | (go_at_call 87; (with_reducible refine (HO.out _).mono ?_); rintro e w2 ⟨rfl, hb2⟩))
    go_ret
    exact ⟨ret_val (by rw [H.out]; rfl), (belowN HB.out _).trans (hb2.mono (belowN HB.out _).size)⟩
  · have H := Lib.hid (show indB x g = false by unfold indB; rw [decide_eq_false h1]; rfl)
    have d1 : decide (((metL x.init g).length : Int) ≤ 1) = false := decide_eq_false (by omega)
    clear h1
    go_enter Tryd.func67, Tryd.ntmps67
    go_wp2
    go_quiet (first | (go_at_call 40; (with_reducible refine quiet_same (setOf_any x.ai x.ci x.init _ HI.out ?_)); exact HX2.out.init.nums))
    go_wp2_with (first | (go_at_call 86; (with_reducible refine (lenM_any HI.out HG.out _).mono ?_); rintro e w' ⟨rfl, rfl⟩) | (go_at_call 87; (with_reducible refine (HO.out _).mono ?_); rintro e w2 ⟨rfl, hb2⟩))
    go_ret
    exact ⟨ret_val (by rw [H.out]; rfl), belowN HB.out _⟩
end Go.Proofs.YtiaobanloakplaaDoor
end

/- Package invariant: Inductive. -/
section
namespace Go.Proofs.YtiaobanloakplaaDoor
open Go.RowKit
set_option linter.unusedSimpArgs false
set_option linter.unusedVariables false
set_option maxRecDepth 100000

def iF (x : Tsk) (g : List Int) : Int × Int := if (tkF x).1 ≠ 0 then tkF x else if setB g x.n then (0, 0) else (5, -8)
def iB (x : Tsk) (g : List Int) : Bool := decide ((iF x g).1 = 0) && indB x g
theorem iF_zero {x : Tsk} {g : List Int} (h : (iF x g).1 = 0) : iF x g = (0, 0) ∧ (tkF x).1 = 0 ∧ setB g x.n = true := by
  unfold iF at h ⊢
  by_cases h1 : (tkF x).1 = 0
  · rw [if_neg (by simp [h1])] at h ⊢
    cases hs : setB g x.n
    · rw [hs] at h; cases h
    · exact ⟨rfl, h1, rfl⟩
  · rw [if_pos h1] at h; exact absurd h h1

theorem iS {w V : World} {x : Tsk} (h : Fr1 w V x 0 0) : V.cell? ⟨w.heap.size, 0, none⟩ = some (.int .i64 x.n) ∧ V.cell? ⟨w.heap.size, 1, none⟩ = some (.slice x.ai x.init.length x.ci) ∧ V.cell? ⟨w.heap.size, 2, none⟩ = some (.slice x.ag x.goal.length x.cg) ∧ V.cell? ⟨w.heap.size, 3, none⟩ = some (.slice x.ao x.ops.length x.co) ∧ V.cell? ⟨w.heap.size + 1, 0, none⟩ = some (.int .i64 0) ∧ V.cell? ⟨w.heap.size + 1, 1, none⟩ = some (.int .i64 0) ∧ V.frozen? ⟨w.heap.size + 1, 0, none⟩ = false ∧ V.frozen? ⟨w.heap.size + 1, 1, none⟩ = false ∧ Fr1 w V x 0 0 := ⟨h.box.c0, h.box.c1, h.box.c2, h.box.c3, h.two.fst, h.two.snd, h.two.ffst, h.two.fsnd, h⟩
theorem last9 {P1 P2 P3 P4 P5 P6 P7 P8 Q : Prop} (h : P1 ∧ P2 ∧ P3 ∧ P4 ∧ P5 ∧ P6 ∧ P7 ∧ P8 ∧ Q) : Q := h.2.2.2.2.2.2.2.2
theorem fr1_set {w V : World} {x : Tsk} (h : Fr1 w V x 0 0) : Fr1 w ((V.setCell ⟨w.heap.size + 1, 0, none⟩ (.int .i64 0)).setCell ⟨w.heap.size + 1, 1, none⟩ (.int .i64 0)) x 0 0 :=
  ⟨(h.below.setCell (by simp) _).setCell (by simp) _, (h.box.far (by simp) _).far (by simp) _, h.two.set _ _⟩
theorem eq_below {w w' : World} (h : w = w') : Below w.heap.size w w' := by subst h; exact Below.refl _ _
set_option maxHeartbeats 2000000 in
theorem Inductive_any (x : Tsk) (a2 : Option Addr) (c2 : Nat) (g : List Int) (w : World) (hX : TskIn w w.heap.size x) (hS : Lst w w.heap.size a2 c2 g) :
    Calls Tryd.prog 32 #[.agg #[.int .i64 x.n, .slice x.ai x.init.length x.ci, .slice x.ag x.goal.length x.cg, .slice x.ao x.ops.length x.co], .slice a2 g.length c2] w fun e w' => e = .returned (.tuple #[.bool (iB x g), faultV (iF x g)]) ∧ Below w.heap.size w w' := by
  have hB2 : Below w.heap.size w ((w.alloc (.cells #[.int .i64 x.n, .slice x.ai x.init.length x.ci, .slice x.ag x.goal.length x.cg, .slice x.ao x.ops.length x.co] 25)).alloc (.cells #[.int .i64 0, .int .i64 0] 28)) := by go_grown
  have HC := validate_any x _ (hX.to hB2 hB2.size)
  have HS := Lib.hid (fun (W : World) (h : Below w.heap.size w W) => hS.to h h.size)
  have HX := Lib.hid (fun (W : World) (h : Below w.heap.size w W) => hX.to h h.size)
  clear hX hS hB2
  have hF0 := Lib.hid (fr1_new w x 25 28)
  by_cases ht : (tkF x).1 = 0
  case neg =>
    have H := Lib.hid (show iF x g = tkF x by simp [iF, ht])
    have H2 := Lib.hid (show iB x g = false by unfold iB; rw [H.out, decide_eq_false ht]; rfl)
    have hne : ((tkF x).1 != 0) = true := by simpa using ht
    have hne2 : ((tkF x).1 == 0) = false := by simpa using ht
    clear ht
    go_enter Tryd.func32, Tryd.ntmps32
    go_wp2_with (go_at_call 66; (with_reducible refine HC.mono ?_); rintro e w1 ⟨rfl, hbw⟩; have hF := Lib.hid (hF0.out.to hbw); obtain ⟨_, ⟨_, t0, t1, t2, t3⟩, ⟨_, k0, k1, f0, f1⟩⟩ := hF.out)
    go_region
    all_goals
      go_wp2
      have htw := hF.out.two
      have hbe := hF.out.below
      refine post_with_fault (g := w.heap.size + 1) (x := .int .i64 (tkF x).1) (y := .int .i64 (tkF x).2) Tryd.results32 rfl ?_ ?_
      · (repeat' (first | (with_reducible assumption) | (with_reducible exact two_new _ _ _ _) | (with_reducible exact (two_new _ _ _ _).pair) | (with_reducible exact Two.pair ‹_›) | (with_reducible refine Pair.set ?_ _ _) | (with_reducible refine Two.alloc ?_ _) | (with_reducible refine Pair.alloc ?_ _) | (with_reducible refine two1 ?_) | (with_reducible refine twoN ?_ _) | (with_reducible refine Pair.drew ?_) | (with_reducible refine Pair.drewN ?_ _) | (with_reducible refine Two.far ?_ ?_ _) | (with_reducible refine Pair.far ?_ ?_ _) | (simp; omega)))
      · refine ⟨by rw [H.out, H2.out]; rfl, ?_⟩
        (repeat' (first | (with_reducible assumption) | (with_reducible exact Below.refl _ _) | (with_reducible refine belowN ?_ _) | (with_reducible refine Below.alloc ?_ ?_ _) | (with_reducible refine Below.drew ?_) | (with_reducible refine Below.setCell ?_ ?_ _) | go_size))
  have hv := tkF_val ht
  have h24 : x.n ≤ 24 := by have := hv.eq; have := hv.le; omega
  rw [tkF_fst ht] at HC
  have IS := Lib.hid (fun (W : World) (h : Below w.heap.size w W) => isSet_any a2 c2 g x.n W h24 (HS.out W h).nums (HS.out W h).len)
  cases hs : setB g x.n
  case false =>
    have H := Lib.hid (show iF x g = (5, -8) by simp [iF, ht, hs])
    have H2 := Lib.hid (show iB x g = false by unfold iB; rw [H.out]; rfl)
    clear ht hv
    go_enter Tryd.func32, Tryd.ntmps32
    go_wp2_with (first | (go_at_call 66; (with_reducible refine HC.mono ?_); rintro e w1 ⟨rfl, hbw⟩; have hF := Lib.hid (hF0.out.to hbw); obtain ⟨_, ⟨_, t0, t1, t2, t3⟩, ⟨_, k0, k1, f0, f1⟩⟩ := hF.out) | (go_at_call 53; (with_reducible refine (IS.out _ (hF.out.alloc _).below).mono ?_); rintro e w2 ⟨rfl, rfl⟩; have HF3 := Lib.hid (hF.out.alloc (.cells #[.int .i64 0, .int .i64 0] 28))))
    have htw := hF.out.two
    have hbe := hF.out.below
    refine post_with_fault (g := w.heap.size + 1) (x := .int .i64 5) (y := .int .i64 (-8)) Tryd.results32 rfl ?_ ?_
    · (repeat' (first | (with_reducible assumption) | (with_reducible exact two_new _ _ _ _) | (with_reducible exact (two_new _ _ _ _).pair) | (with_reducible exact Two.pair ‹_›) | (with_reducible refine Pair.set ?_ _ _) | (with_reducible refine Two.alloc ?_ _) | (with_reducible refine Pair.alloc ?_ _) | (with_reducible refine two1 ?_) | (with_reducible refine twoN ?_ _) | (with_reducible refine Pair.drew ?_) | (with_reducible refine Pair.drewN ?_ _) | (with_reducible refine Two.far ?_ ?_ _) | (with_reducible refine Pair.far ?_ ?_ _) | (simp; omega)))
    · refine ⟨by rw [H.out, H2.out]; rfl, ?_⟩
      (repeat' (first | (with_reducible assumption) | (with_reducible exact Below.refl _ _) | (with_reducible refine belowN ?_ _) | (with_reducible refine Below.alloc ?_ ?_ _) | (with_reducible refine Below.drew ?_) | (with_reducible refine Below.setCell ?_ ?_ _) | go_size))
  case true =>
    have hg24 : IsS g 24 := (setB_iff.1 hs).mono h24
    have H := Lib.hid (show iF x g = (0, 0) by simp [iF, ht, hs])
    have H2 := Lib.hid (show iB x g = indB x g by unfold iB; rw [H.out]; rfl)
    have SO := Lib.hid (fun (W : World) (h : Below w.heap.size w W) => setOf_any a2 c2 g W hg24 (HS.out W h).nums)
    have IN := Lib.hid (fun (W : World) (h : Below w.heap.size w W) => inductive_any x g W (HX.out W h) (hv.init.mono (by have := hv.le; omega)) hv.ops24 hg24)
    clear ht hv h24 hg24
    go_enter Tryd.func32, Tryd.ntmps32
    go_wp2_with (first | (go_at_call 66; (with_reducible refine HC.mono ?_); rintro e w1 ⟨rfl, hbw⟩; have hF := Lib.hid (hF0.out.to hbw); obtain ⟨_, ⟨_, t0, t1, t2, t3⟩, ⟨_, k0, k1, f0, f1⟩⟩ := hF.out) | (go_at_call 53; (with_reducible refine (IS.out _ (hF.out.alloc _).below).mono ?_); rintro e w2 ⟨rfl, rfl⟩; have HF3 := Lib.hid (hF.out.alloc (.cells #[.int .i64 0, .int .i64 0] 28))))
    go_region_held3 (fun V => V.cell? ⟨w.heap.size, 0, none⟩ = some (.int .i64 x.n) ∧ V.cell? ⟨w.heap.size, 1, none⟩ = some (.slice x.ai x.init.length x.ci) ∧ V.cell? ⟨w.heap.size, 2, none⟩ = some (.slice x.ag x.goal.length x.cg) ∧ V.cell? ⟨w.heap.size, 3, none⟩ = some (.slice x.ao x.ops.length x.co) ∧ V.cell? ⟨w.heap.size + 1, 0, none⟩ = some (.int .i64 0) ∧ V.cell? ⟨w.heap.size + 1, 1, none⟩ = some (.int .i64 0) ∧ V.frozen? ⟨w.heap.size + 1, 0, none⟩ = false ∧ V.frozen? ⟨w.heap.size + 1, 1, none⟩ = false ∧ Fr1 w V x 0 0) (first | assumption | (refine ⟨?_, ?_, ?_, ?_, ?_, ?_, ?_, ?_, ?_⟩ <;> assumption) | (exact iS HF3.out) | (exact iS (HF3.out.to (Below.refl _ _).drew)) | (exact iS (Fr1.to (last9 (by assumption)) (by assumption))) | (exact iS (fr1_set (last9 (by assumption))))) (first | (go_at_call 40; (with_reducible refine (SO.out _ ?_).mono ?_); (first | exact HF3.out.below.drew | exact HF3.out.below | exact (Fr1.below (last9 (by assumption)))); rintro e w4 ⟨rfl, hw⟩; have hb4 := (eq_below hw)) | (go_at_call 67; (with_reducible refine (IN.out _ ?_).mono ?_); (first | exact HF3.out.below.drew | exact HF3.out.below | exact (Fr1.below (last9 (by assumption)))); rintro e w5 ⟨rfl, hb5⟩))
    all_goals
      have HF6 := Lib.hid (((HF3.out.to (Below.refl _ _).drew).to hb4).to hb5)
      go_wp2
      refine post_with_fault (g := w.heap.size + 1) (x := .int .i64 0) (y := .int .i64 0) Tryd.results32 rfl (HF6.out.two.set _ _) ?_
      rw [H.out, H2.out]
      exact ⟨rfl, (HF6.out.below.setCell (by simp) _).setCell (by simp) _⟩
end Go.Proofs.YtiaobanloakplaaDoor
end
