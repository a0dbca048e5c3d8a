/- extreme, conceivable and SameBounds of the reference. -/
import Derived.Test.YtiafplmaigpmeaaNso
namespace Go.Proofs.Ytiafplmaigpmeaa
open Go.RowKit
set_option linter.unusedSimpArgs false
set_option linter.unusedVariables false
set_option maxRecDepth 100000

def prx (b : List (Int × Int)) (k : Nat) : Int × Int := b.getD k (0, 0)
/-- Intervals in a slice. -/
structure PrL (w : World) (B : Nat) (A : Option Addr) (C : Nat) (b : List (Int × Int)) : Prop where
  cells : 0 < b.length → ∃ g o, A = some ⟨g, o, none⟩ ∧ g < B ∧ ∀ k, k < b.length → w.cell? ⟨g, o + k * 2, none⟩ = some (.int .i64 (prx b k).1) ∧ w.cell? ⟨g, o + k * 2 + 1, none⟩ = some (.int .i64 (prx b k).2)
  le : b.length ≤ C
  max : C ≤ maxLen
theorem PrL.to {w w' : World} {B B' : Nat} {A : Option Addr} {C : Nat} {b : List (Int × Int)} (h : PrL w B A C b) (hb : Below B w w') (hB : B ≤ B') : PrL w' B' A C b := by
  refine ⟨fun h0 => ?_, h.le, h.max⟩
  obtain ⟨g, o, e, hlt, hc⟩ := h.cells h0
  exact ⟨g, o, e, by omega, fun k hk => ⟨(hb.cell (p := ⟨g, o + k * 2, none⟩) hlt).trans (hc k hk).1, (hb.cell (p := ⟨g, o + k * 2 + 1, none⟩) hlt).trans (hc k hk).2⟩⟩
theorem PrL.at_ {w : World} {B : Nat} {A : Option Addr} {C : Nat} {b : List (Int × Int)} (h : PrL w B A C b) {k : Nat} (hk : k < b.length) :
    ∃ g o, A = some ⟨g, o, none⟩ ∧ g < B ∧ w.cell? ⟨g, o + k * 2, none⟩ = some (.int .i64 (prx b k).1) ∧ w.cell? ⟨g, o + k * 2 + 1, none⟩ = some (.int .i64 (prx b k).2) := by
  obtain ⟨g, o, e, hlt, hc⟩ := h.cells (by omega)
  exact ⟨g, o, e, hlt, (hc k hk).1, (hc k hk).2⟩
structure BOk (n : Nat) (b : List (Int × Int)) : Prop where
  len : b.length = n
  lo : ∀ k, k < b.length → -1000000 ≤ (prx b k).1 ∧ (prx b k).1 ≤ 1000000
  hi : ∀ k, k < b.length → -1000000 ≤ (prx b k).2 ∧ (prx b k).2 ≤ 1000000
/-- The sums of the smallest and of the greatest products. -/
def lowK (f : List Int) (b : List (Int × Int)) : Nat → Int
  | 0 => 0
  | k + 1 => lowK f b k + min (ix f k * (prx b k).1) (ix f k * (prx b k).2)
def highK (f : List Int) (b : List (Int × Int)) : Nat → Int
  | 0 => 0
  | k + 1 => highK f b k + max (ix f k * (prx b k).1) (ix f k * (prx b k).2)
def lowS (f : List Int) (b : List (Int × Int)) : Int := lowK f b f.length
def highS (f : List Int) (b : List (Int × Int)) : Int := highK f b f.length
def exK (s : Int) (f : List Int) (b : List (Int × Int)) : Nat → Int
  | 0 => 0
  | k + 1 => exK s f b k + max (s * ix f k * (prx b k).1) (s * ix f k * (prx b k).2)
theorem ex_high (f : List Int) (b : List (Int × Int)) : ∀ k, exK 1 f b k = highK f b k
  | 0 => rfl
  | k + 1 => by rw [exK, highK, ex_high f b k, Int.one_mul]
theorem ex_low (f : List Int) (b : List (Int × Int)) : ∀ k, exK (-1) f b k = -lowK f b k
  | 0 => rfl
  | k + 1 => by
    rw [exK, lowK, ex_low f b k]
    have e1 : (-1) * ix f k * (prx b k).1 = -(ix f k * (prx b k).1) := by rw [Int.neg_mul, Int.one_mul, Int.neg_mul]
    have e2 : (-1) * ix f k * (prx b k).2 = -(ix f k * (prx b k).2) := by rw [Int.neg_mul, Int.one_mul, Int.neg_mul]
    rw [e1, e2]
    omega
theorem sgn_bd {s a : Int} (hs : s = 1 ∨ s = -1) (h1 : -1000 ≤ a) (h2 : a ≤ 1000) : -1000 ≤ s * a ∧ s * a ≤ 1000 := by
  rcases hs with rfl | rfl <;> omega
theorem exK_bd {s : Int} (hs : s = 1 ∨ s = -1) {n : Nat} {f : List Int} {b : List (Int × Int)} (hf : FOk n f) (hb : BOk n b) : ∀ k, k ≤ n → -(1000000000 * (k : Int)) ≤ exK s f b k ∧ exK s f b k ≤ 1000000000 * (k : Int)
  | 0, _ => by simp [exK]
  | k + 1, h => by
    have ih := exK_bd hs hf hb k (by omega)
    have h1 := hf.b k (by rw [hf.len]; omega)
    have h2 := hb.lo k (by rw [hb.len]; omega)
    have h3 := hb.hi k (by rw [hb.len]; omega)
    have h0 := sgn_bd hs h1.1 h1.2
    have h4 := mul_bd h0.1 h0.2 h2.1 h2.2
    have h5 := mul_bd h0.1 h0.2 h3.1 h3.2
    rw [exK]
    omega
set_option maxHeartbeats 4000000 in
theorem extreme_any (s : Int) (hs : s = 1 ∨ s = -1) (n : Nat) (hn : n ≤ 8) (a1 a2 : Option Addr) (c1 c2 : Nat) (f : List Int) (b : List (Int × Int)) (hf : FOk n f) (hb : BOk n b) (w : World) (h1 : Lst w w.heap.size a1 c1 f) (h2 : PrL w w.heap.size a2 c2 b) :
    Calls Try.prog 37 #[.slice a1 f.length c1, .slice a2 b.length c2, .int .i64 s] w fun e w' => e = .returned (.int .i64 (s * exK s f b f.length)) ∧ ∃ m, w' = w.drewN m := by
  have HF := Lib.hid hf
  have HB9 := Lib.hid hb
  have HSG := Lib.hid hs
  have H1 := Lib.hid (fun (W : World) (h : Below w.heap.size w W) => h1.to h h.size)
  have H2 := Lib.hid (fun (W : World) (h : Below w.heap.size w W) => h2.to h h.size)
  have hf8 : f.length ≤ 8 := by have := hf.len; omega
  have hbf : f.length ≤ b.length := by have := hf.len; have := hb.len; omega
  have hfn : f.length ≤ n := by have := hf.len; omega
  clear hf hb h1 h2 hs
  go_enter Try.func37, Try.ntmps37
  go_wp2
  go_loopw [7, 8] (fun z i wr => ∃ k : Nat, k ≤ f.length ∧ i = .int .i64 k ∧ z = .int .i64 (exK s f b k) ∧ ∃ m, wr = w.drewN m) (fun _ i _ => f.length - (intOf i).toNat)
  case atStart => exact ⟨0, by omega, rfl, rfl, 0, rfl⟩
  case round =>
    obtain ⟨k, hk, rfl, rfl, md, hw9⟩ := hrel
    have HW9 := Lib.hid hw9
    have HB := Lib.hid (show Below w.heap.size w wr by rw [hw9]; exact belowN (Below.refl _ _) _)
    clear hw9
    have hsum := exK_bd HSG.out HF.out HB9.out k (by omega)
    by_cases hlt : k < f.length
    case neg =>
      obtain rfl : k = f.length := by omega
      have hge : ¬ ((f.length : Int) < f.length) := by omega
      have hws : IntKind.i64.wrap (s * exK s f b f.length) = s * exK s f b f.length := IntWalk.i64_in _ (by rcases HSG.out with rfl | rfl <;> omega)
      clear hsum
      go_wp2
      go_ret
      exact ⟨ret_int rfl, md, HW9.out⟩
    case pos =>
      obtain ⟨b1, o1, rfl, _, hc1⟩ := (H1.out _ HB.out).nums.at_ hlt
      obtain ⟨b2, o2, rfl, _, hc2, hc3⟩ := (H2.out _ HB.out).at_ (Nat.lt_of_lt_of_le hlt hbf)
      have g1 := HF.out.b k hlt
      have g2 := HB9.out.lo k (by omega)
      have g3 := HB9.out.hi k (by omega)
      have g0 := sgn_bd HSG.out g1.1 g1.2
      have g4 := mul_bd g0.1 g0.2 g2.1 g2.2
      have g5 := mul_bd g0.1 g0.2 g3.1 g3.2
      have HEX := Lib.hid (show exK s f b (k + 1) = exK s f b k + max (s * ix f k * (prx b k).1) (s * ix f k * (prx b k).2) from rfl)
      have hw1 : IntKind.i64.wrap (s * ix f k) = s * ix f k := IntWalk.i64_in _ (by omega)
      have hw2 : IntKind.i64.wrap (s * ix f k * (prx b k).1) = s * ix f k * (prx b k).1 := IntWalk.i64_in _ (by omega)
      have hw3 : IntKind.i64.wrap (s * ix f k * (prx b k).2) = s * ix f k * (prx b k).2 := IntWalk.i64_in _ (by omega)
      have hwk : IntKind.i64.wrap ((k : Int) + 1) = (k : Int) + 1 := IntWalk.i64_in _ (by omega)
      generalize hp : s * ix f k * (prx b k).1 = p at *
      generalize hq : s * ix f k * (prx b k).2 = q at *
      have HP := Lib.hid hp
      have HQ := Lib.hid hq
      by_cases hgt : p < q
      · have hd : decide (p < q) = true := decide_eq_true hgt
        have HM := Lib.hid (show exK s f b (k + 1) = exK s f b k + q by rw [HEX.out]; omega)
        have hwa : IntKind.i64.wrap (exK s f b k + q) = exK s f b k + q := IntWalk.i64_in _ (by omega)
        clear g0 g1 g2 g3 g4 g5 hsum hgt
        go_wp2
        go_quiet (fail)
        go_wp2
        go_quiet (fail)
        go_wp2
        go_roundw
        case rel => exact ⟨k + 1, by omega, by go_num, by rw [HM.out], _, by rw [HW9.out, World.drewN_drewN]⟩
        case measure => simp [intOf]; omega
      · have hd : decide (p < q) = false := decide_eq_false hgt
        have HM := Lib.hid (show exK s f b (k + 1) = exK s f b k + p by rw [HEX.out]; omega)
        have hwa : IntKind.i64.wrap (exK s f b k + p) = exK s f b k + p := IntWalk.i64_in _ (by omega)
        clear g0 g1 g2 g3 g4 g5 hsum hgt
        go_wp2
        go_quiet (fail)
        go_wp2
        go_quiet (fail)
        go_wp2
        go_roundw
        case rel => exact ⟨k + 1, by omega, by go_num, by rw [HM.out], _, by rw [HW9.out, World.drewN_drewN]⟩
        case measure => simp [intOf]; omega
theorem extreme_high (n : Nat) (hn : n ≤ 8) (a1 a2 : Option Addr) (c1 c2 : Nat) (f : List Int) (b : List (Int × Int)) (hf : FOk n f) (hb : BOk n b) (w : World) (h1 : Lst w w.heap.size a1 c1 f) (h2 : PrL w w.heap.size a2 c2 b) :
    Calls Try.prog 37 #[.slice a1 f.length c1, .slice a2 b.length c2, .int .i64 1] w fun e w' => e = .returned (.int .i64 (highS f b)) ∧ ∃ m, w' = w.drewN m := by
  have h := extreme_any 1 (.inl rfl) n hn a1 a2 c1 c2 f b hf hb w h1 h2
  rw [ex_high, Int.one_mul] at h
  exact h
theorem extreme_low (n : Nat) (hn : n ≤ 8) (a1 a2 : Option Addr) (c1 c2 : Nat) (f : List Int) (b : List (Int × Int)) (hf : FOk n f) (hb : BOk n b) (w : World) (h1 : Lst w w.heap.size a1 c1 f) (h2 : PrL w w.heap.size a2 c2 b) :
    Calls Try.prog 37 #[.slice a1 f.length c1, .slice a2 b.length c2, .int .i64 (-1)] w fun e w' => e = .returned (.int .i64 (lowS f b)) ∧ ∃ m, w' = w.drewN m := by
  have h := extreme_any (-1) (.inr rfl) n hn a1 a2 c1 c2 f b hf hb w h1 h2
  rw [ex_low, show (-1 : Int) * -lowK f b f.length = lowK f b f.length by omega] at h
  exact h
theorem low_bd {n : Nat} {f : List Int} {b : List (Int × Int)} (hn : n ≤ 8) (hf : FOk n f) (hb : BOk n b) : -8000000000 ≤ lowS f b ∧ lowS f b ≤ 8000000000 := by
  have := exK_bd (.inr rfl) hf hb n (Nat.le_refl _)
  unfold lowS
  rw [ex_low] at this
  rw [hf.len]
  omega
theorem high_bd {n : Nat} {f : List Int} {b : List (Int × Int)} (hn : n ≤ 8) (hf : FOk n f) (hb : BOk n b) : -8000000000 ≤ highS f b ∧ highS f b ≤ 8000000000 := by
  have := exK_bd (.inl rfl) hf hb n (Nat.le_refl _)
  unfold highS
  rw [ex_high] at this
  rw [hf.len]
  omega
end Go.Proofs.Ytiafplmaigpmeaa
