/- Sum, Satisfied, NumericAfter and NumericSolves of the reference. -/
import Derived.Test.YtiafplmaigpmeaaNft
namespace Go.Proofs.Ytiafplmaigpmeaa
open Go.RowKit
set_option linter.unusedSimpArgs false
set_option linter.unusedVariables false
set_option maxRecDepth 100000

def smK (f v : List Int) : Nat → Int
  | 0 => 0
  | k + 1 => smK f v k + ix f k * ix v k
def sm (f v : List Int) : Int := smK f v f.length
structure VOk (n : Nat) (v : List Int) : Prop where
  len : v.length = n
  b : ∀ k, k < v.length → -1000000 ≤ ix v k ∧ ix v k ≤ 1000000
structure FOk (n : Nat) (f : List Int) : Prop where
  len : f.length = n
  b : ∀ k, k < f.length → -1000 ≤ ix f k ∧ ix f k ≤ 1000
theorem mul_bd {a b : Int} (h1 : -1000 ≤ a) (h2 : a ≤ 1000) (h3 : -1000000 ≤ b) (h4 : b ≤ 1000000) : -1000000000 ≤ a * b ∧ a * b ≤ 1000000000 := by
  have h : (a * b).natAbs ≤ 1000 * 1000000 := by
    rw [Int.natAbs_mul]
    exact Nat.mul_le_mul (by omega) (by omega)
  omega
theorem smK_bd {n : Nat} {f v : List Int} (hf : FOk n f) (hv : VOk n v) : ∀ k, k ≤ n → -(1000000000 * (k : Int)) ≤ smK f v k ∧ smK f v k ≤ 1000000000 * (k : Int)
  | 0, _ => by simp [smK]
  | k + 1, h => by
    have ih := smK_bd hf hv k (by omega)
    have h1 := hf.b k (by rw [hf.len]; omega)
    have h2 := hv.b k (by rw [hv.len]; omega)
    have h3 := mul_bd h1.1 h1.2 h2.1 h2.2
    rw [smK]
    omega
theorem sm_bd {n : Nat} {f v : List Int} (hn : n ≤ 8) (hf : FOk n f) (hv : VOk n v) : -8000000000 ≤ sm f v ∧ sm f v ≤ 8000000000 := by
  have := smK_bd hf hv n (Nat.le_refl _)
  unfold sm
  rw [hf.len]
  omega
set_option maxHeartbeats 2000000 in
theorem sum_any (n : Nat) (hn : n ≤ 8) (a1 a2 : Option Addr) (c1 c2 : Nat) (f v : List Int) (hf : FOk n f) (hv : VOk n v) (w : World) (h1 : Lst w w.heap.size a1 c1 f) (h2 : Lst w w.heap.size a2 c2 v) :
    Calls Try.prog 35 #[.slice a1 f.length c1, .slice a2 v.length c2] w fun e w' => e = .returned (.int .i64 (sm f v)) ∧ ∃ m, w' = w.drewN m := by
  have HF := Lib.hid hf
  have HV := Lib.hid hv
  have H1 := Lib.hid (fun (W : World) (h : Below w.heap.size w W) => h1.to h h.size)
  have H2 := Lib.hid (fun (W : World) (h : Below w.heap.size w W) => h2.to h h.size)
  have hf8 : f.length ≤ 8 := by have := hf.len; omega
  have hvf : f.length ≤ v.length := by have := hf.len; have := hv.len; omega
  have hfn : f.length ≤ n := by have := hf.len; omega
  clear hf hv h1 h2
  have hw0 : IntKind.i64.wrap ((f.length : Int) - 1) = (f.length : Int) - 1 := IntWalk.i64_in _ (by omega)
  go_enter Try.func35, Try.ntmps35
  go_wp2
  go_loopw [5, 6] (fun s i wr => ∃ (k : Nat) (z : Int), k ≤ f.length ∧ i = .int .i64 ((k : Int) - 1) ∧ s = .int .i64 z ∧ z = sm f v - smK f v k ∧ ∃ m, wr = w.drewN m) (fun _ i _ => (intOf i + 1).toNat)
  case atStart => exact ⟨f.length, 0, by omega, rfl, rfl, by unfold sm; omega, 0, rfl⟩
  case round =>
    obtain ⟨k, z, hk, rfl, rfl, hz, md, hw9⟩ := hrel
    have HZ := Lib.hid hz
    have HW9 := Lib.hid hw9
    have HB := Lib.hid (show Below w.heap.size w wr by rw [hw9]; exact belowN (Below.refl _ _) _)
    clear hz hw9
    cases k with
    | zero =>
      have hd : decide ((0 : Int) ≤ ((0 : Nat) : Int) - 1) = false := by decide
      have HE := Lib.hid (show z = sm f v by rw [HZ.out]; simp [smK])
      go_wp2
      go_ret
      exact ⟨ret_int HE.out, md, HW9.out⟩
    | succ k =>
      obtain ⟨e1, e2⟩ : (((k + 1 : Nat) : Int) - 1 = (k : Int)) ∧ ((k : Int) - 1 = ((k : Nat) : Int) - 1) := ⟨by omega, rfl⟩
      rw [e1]
      have hkf : k < f.length := by omega
      have hkv : k < v.length := by omega
      obtain ⟨b1, o1, rfl, _, hc1⟩ := (H1.out _ HB.out).nums.at_ hkf
      obtain ⟨b2, o2, rfl, _, hc2⟩ := (H2.out _ HB.out).nums.at_ hkv
      have g1 := HF.out.b k hkf
      have g2 := HV.out.b k hkv
      have g3 := mul_bd g1.1 g1.2 g2.1 g2.2
      have g4 := smK_bd HF.out HV.out k (by omega)
      have g5 := smK_bd HF.out HV.out (k + 1) (by omega)
      have g6 := sm_bd hn HF.out HV.out
      have hz := HZ.out
      have hs : smK f v (k + 1) = smK f v k + ix f k * ix v k := rfl
      have hz2 : z + ix f k * ix v k = sm f v - smK f v k := by rw [hz, hs]; omega
      have hwm : IntKind.i64.wrap (ix f k * ix v k) = ix f k * ix v k := IntWalk.i64_in _ (by omega)
      have hwa : IntKind.i64.wrap (z + ix f k * ix v k) = z + ix f k * ix v k := by rw [hz2]; exact IntWalk.i64_in _ (by omega)
      have hwk : IntKind.i64.wrap ((k : Int) - 1) = (k : Int) - 1 := IntWalk.i64_in _ (by omega)
      have hd : decide ((0 : Int) ≤ (k : Int)) = true := by simp
      have HZ2 := Lib.hid hz2
      clear hz hs hz2 g1 g2 g3 g4 g5 g6
      go_wp2
      go_quiet (fail)
      go_wp2
      go_roundw
      case rel => exact ⟨k, _, by omega, rfl, rfl, HZ2.out, md + nq, by rw [HW9.out, World.drewN_drewN]⟩
      case measure => simp [intOf]

/-- One comparison is true. -/
def s1 (c : Cmp) (v : List Int) : Bool := decide (c.b ≤ sm c.f v) && (decide (c.k ≠ 2) || decide (sm c.f v = c.b))
def sat (l : List Cmp) (v : List Int) : Bool := l.all (fun c => s1 c v)
theorem sat_bad {l : List Cmp} {v : List Int} {k : Nat} (hk : k < l.length) (h : s1 (cmp l k) v = false) : sat l v = false := by
  cases hs : sat l v
  · rfl
  · unfold sat at hs
    rw [List.all_eq_true] at hs
    rw [hs _ (cmp_mem hk)] at h
    cases h
theorem sat_good {l : List Cmp} {v : List Int} (h : ∀ k, k < l.length → s1 (cmp l k) v = true) : sat l v = true := by
  unfold sat
  rw [List.all_eq_true]
  intro c hc
  obtain ⟨k, hk, rfl⟩ := mem_cmp hc
  exact h k hk
theorem CmpOk.fok {n : Nat} {c : Cmp} (h : CmpOk n c) : FOk n c.f := ⟨h.len, h.f⟩
theorem ChgOk.fok {n : Nat} {c : Chg} (h : ChgOk n c) : FOk n c.f := ⟨h.len, h.f⟩
set_option maxHeartbeats 2000000 in
theorem satisfied_any (n : Nat) (hn : n ≤ 8) (A a2 : Option Addr) (C c2 : Nat) (l : List Cmp) (v : List Int) (hl : ∀ k, k < l.length → CmpOk n (cmp l k)) (hv : VOk n v) (w : World) (h1 : CmpL w w.heap.size A C l) (h2 : Lst w w.heap.size a2 c2 v) :
    Calls Try.prog 34 #[.slice A l.length C, .slice a2 v.length c2] w fun e w' => e = .returned (.bool (sat l v)) ∧ Below w.heap.size w w' := by
  have hln := Nat.le_trans h1.le h1.max
  unfold maxLen at hln
  have HL := Lib.hid hl
  have HV := Lib.hid hv
  have H1 := Lib.hid (fun (W : World) (h : Below w.heap.size w W) => h1.to h h.size)
  have H2 := Lib.hid (fun (W : World) (h : Below w.heap.size w W) => h2.to h h.size)
  clear hl hv h1 h2
  go_enter Try.func34, Try.ntmps34
  go_wp2
  go_loopw [5] (fun i wr => ∃ k : Nat, k ≤ l.length ∧ i = .int .i64 k ∧ (∀ j, j < k → s1 (cmp l j) v = true) ∧ Below w.heap.size w wr) (fun i _ => l.length - (intOf i).toNat)
  case atStart => exact ⟨0, by omega, rfl, fun j h => by omega, Below.refl _ _⟩
  case round =>
    obtain ⟨k, hk, rfl, hj, hb⟩ := hrel
    have HJ := Lib.hid hj
    have HB := Lib.hid hb
    clear hj hb
    by_cases hlt : k < l.length
    case neg =>
      have HG := Lib.hid (sat_good (l := l) (v := v) (fun j hj => HJ.out j (by omega)))
      have hge : ¬ ((k : Int) < l.length) := by omega
      go_wp2
      go_ret
      exact ⟨ret_val (by rw [HG.out]; rfl), HB.out⟩
    case pos =>
      obtain ⟨b, p, a, ca, hA, hbl, qc, hf⟩ := (H1.out _ HB.out).at_ hlt
      subst hA
      have hok := HL.out k hlt
      have HSM := Lib.hid (sum_any n hn a a2 ca c2 (cmp l k).f v hok.fok HV.out wr hf (H2.out _ HB.out))
      have HS1 := Lib.hid (show s1 (cmp l k) v = (decide ((cmp l k).b ≤ sm (cmp l k).f v) && (decide ((cmp l k).k ≠ 2) || decide (sm (cmp l k).f v = (cmp l k).b))) from rfl)
      generalize hcm : cmp l k = c at *
      generalize hsm : sm c.f v = s at *
      have q0' := qc.c0
      have hwk : IntKind.i64.wrap ((k : Int) + 1) = (k : Int) + 1 := IntWalk.i64_in _ (by omega)
      by_cases hb1 : s < c.b
      case pos =>
        have HBAD := Lib.hid (sat_bad (v := v) hlt (by rw [hcm, HS1.out, decide_eq_false (by omega)]; rfl))
        have hd1 : decide (s < c.b) = true := decide_eq_true hb1
        clear hb1
        go_wp2_with (go_at_call 35; (with_reducible refine HSM.out.mono ?_); rintro e w5 ⟨rfl, md5, hw5⟩; have hb5 : Below wr.heap.size wr w5 := (by rw [hw5]; exact belowN (Below.refl _ _) _); clear hw5; have HB5 := Lib.hid (HB.out.trans (hb5.mono HB.out.size)); have q0 := (qc.to hb5 hbl).c0; have q1 := (qc.to hb5 hbl).c1; have q2 := (qc.to hb5 hbl).c2; clear hb5)
        go_ret
        exact ⟨ret_val (by rw [HBAD.out]; rfl), HB5.out⟩
      case neg =>
        have hd1 : decide (s < c.b) = false := decide_eq_false hb1
        by_cases hk2 : c.k = 2
        case neg =>
          have HG := Lib.hid (show s1 (cmp l k) v = true by rw [hcm, HS1.out, decide_eq_true (by omega), decide_eq_true hk2]; rfl)
          have he2 : (c.k == 2) = false := by simpa using hk2
          clear hb1 hk2
          go_wp2_with (go_at_call 35; (with_reducible refine HSM.out.mono ?_); rintro e w5 ⟨rfl, md5, hw5⟩; have hb5 : Below wr.heap.size wr w5 := (by rw [hw5]; exact belowN (Below.refl _ _) _); clear hw5; have HB5 := Lib.hid (HB.out.trans (hb5.mono HB.out.size)); have q0 := (qc.to hb5 hbl).c0; have q1 := (qc.to hb5 hbl).c1; have q2 := (qc.to hb5 hbl).c2; clear hb5)
          go_roundw
          case rel => exact ⟨k + 1, by omega, by go_num, all_step HJ.out HG.out, HB5.out⟩
          case measure => simp [intOf]; omega
        case pos =>
          have he2 : (c.k == 2) = true := by simpa using hk2
          by_cases hsb : s = c.b
          case pos =>
            have HG := Lib.hid (show s1 (cmp l k) v = true by rw [hcm, HS1.out, decide_eq_true (by omega), decide_eq_true hsb]; simp)
            have he3 : (s != c.b) = false := by simpa using hsb
            have he4 : (s == c.b) = true := by simpa using hsb
            clear hb1 hk2 hsb
            go_wp2_with (go_at_call 35; (with_reducible refine HSM.out.mono ?_); rintro e w5 ⟨rfl, md5, hw5⟩; have hb5 : Below wr.heap.size wr w5 := (by rw [hw5]; exact belowN (Below.refl _ _) _); clear hw5; have HB5 := Lib.hid (HB.out.trans (hb5.mono HB.out.size)); have q0 := (qc.to hb5 hbl).c0; have q1 := (qc.to hb5 hbl).c1; have q2 := (qc.to hb5 hbl).c2; clear hb5)
            go_roundw
            case rel => exact ⟨k + 1, by omega, by go_num, all_step HJ.out HG.out, HB5.out⟩
            case measure => simp [intOf]; omega
          case neg =>
            have HBAD := Lib.hid (sat_bad (v := v) hlt (by rw [hcm, HS1.out, decide_eq_false hsb, hk2]; simp))
            have he3 : (s != c.b) = true := by simpa using hsb
            have he4 : (s == c.b) = false := by simpa using hsb
            clear hb1 hk2 hsb
            go_wp2_with (go_at_call 35; (with_reducible refine HSM.out.mono ?_); rintro e w5 ⟨rfl, md5, hw5⟩; have hb5 : Below wr.heap.size wr w5 := (by rw [hw5]; exact belowN (Below.refl _ _) _); clear hw5; have HB5 := Lib.hid (HB.out.trans (hb5.mono HB.out.size)); have q0 := (qc.to hb5 hbl).c0; have q1 := (qc.to hb5 hbl).c1; have q2 := (qc.to hb5 hbl).c2; clear hb5)
            go_ret
            exact ⟨ret_val (by rw [HBAD.out]; rfl), HB5.out⟩
end Go.Proofs.Ytiafplmaigpmeaa
