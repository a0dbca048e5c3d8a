/- conceivable of the reference. -/
import Derived.Test.YtiafplmaigpmeaaNex
namespace Go.Proofs.Ytiafplmaigpmeaa
open Go.RowKit
set_option linter.unusedSimpArgs false
set_option linter.unusedVariables false
set_option maxRecDepth 100000

def poss1 (c : Cmp) (b : List (Int × Int)) : Bool := decide (c.b ≤ highS c.f b) && (decide (c.k ≠ 2) || decide (lowS c.f b ≤ c.b))
def poss (l : List Cmp) (b : List (Int × Int)) : Bool := l.all (fun c => poss1 c b)
theorem poss_bad {l : List Cmp} {b : List (Int × Int)} {k : Nat} (hk : k < l.length) (h : poss1 (cmp l k) b = false) : poss l b = false := by
  cases hs : poss l b
  · rfl
  · unfold poss at hs
    rw [List.all_eq_true] at hs
    rw [hs _ (cmp_mem hk)] at h
    cases h
theorem poss_good {l : List Cmp} {b : List (Int × Int)} (h : ∀ k, k < l.length → poss1 (cmp l k) b = true) : poss l b = true := by
  unfold poss
  rw [List.all_eq_true]
  intro c hc
  obtain ⟨k, hk, rfl⟩ := mem_cmp hc
  exact h k hk
set_option maxHeartbeats 4000000 in
theorem conceivable_any (n : Nat) (hn : n ≤ 8) (A a2 : Option Addr) (C c2 : Nat) (l : List Cmp) (b : List (Int × Int)) (hl : ∀ k, k < l.length → CmpOk n (cmp l k)) (hb : BOk n b) (w : World) (h1 : CmpL w w.heap.size A C l) (h2 : PrL w w.heap.size a2 c2 b) :
    Calls Try.prog 36 #[.slice A l.length C, .slice a2 b.length c2] w fun e w' => e = .returned (.bool (poss l b)) ∧ ∃ m, w' = w.drewN m := by
  have hln := Nat.le_trans h1.le h1.max
  unfold maxLen at hln
  have HL := Lib.hid hl
  have HBO := Lib.hid hb
  have H1 := Lib.hid (fun (W : World) (h : Below w.heap.size w W) => h1.to h h.size)
  have H2 := Lib.hid (fun (W : World) (h : Below w.heap.size w W) => h2.to h h.size)
  clear hl hb h1 h2
  go_enter Try.func36, Try.ntmps36
  go_wp2
  go_loopw [5] (fun i wr => ∃ k : Nat, k ≤ l.length ∧ i = .int .i64 k ∧ (∀ j, j < k → poss1 (cmp l j) b = true) ∧ ∃ m, wr = w.drewN m) (fun i _ => l.length - (intOf i).toNat)
  case atStart => exact ⟨0, by omega, rfl, fun j h => by omega, 0, rfl⟩
  case round =>
    obtain ⟨k, hk, rfl, hj, md, hw9⟩ := hrel
    have HJ := Lib.hid hj
    have HW9 := Lib.hid hw9
    have HB := Lib.hid (show Below w.heap.size w wr by rw [hw9]; exact belowN (Below.refl _ _) _)
    clear hj hw9
    by_cases hlt : k < l.length
    case neg =>
      have HG := Lib.hid (poss_good (l := l) (b := b) (fun j hj => HJ.out j (by omega)))
      have hge : ¬ ((k : Int) < l.length) := by omega
      go_wp2
      go_ret
      exact ⟨ret_val (by rw [HG.out]; rfl), md, HW9.out⟩
    case pos =>
      obtain ⟨g, p, a, ca, hA, hbl, ⟨q0, q1, q2⟩, hf⟩ := (H1.out _ HB.out).at_ hlt
      subst hA
      have hok := HL.out k hlt
      obtain ⟨ev, hev1, hev2, hex⟩ : ∃ ev : Int → Int, ev 1 = highS (cmp l k).f b ∧ ev (-1) = lowS (cmp l k).f b ∧ ∀ (s : Int) (m : Nat), (s = 1 ∨ s = -1) → Calls Try.prog 37 #[.slice a (cmp l k).f.length ca, .slice a2 b.length c2, .int .i64 s] (wr.drewN m) fun e w' => e = .returned (.int .i64 (ev s)) ∧ ∃ m', w' = (wr.drewN m).drewN m' :=
        ⟨fun s => s * exK s (cmp l k).f b (cmp l k).f.length, by show (1 : Int) * exK 1 _ _ _ = _; rw [ex_high, Int.one_mul]; rfl, by show (-1 : Int) * exK (-1) _ _ _ = _; rw [ex_low]; unfold lowS; omega, fun s m hs => extreme_any s hs n hn a a2 ca c2 (cmp l k).f b hok.fok HBO.out (wr.drewN m) (hf.to (belowN (Below.refl _ _) m) (Nat.le_refl _)) (H2.out _ (belowN HB.out m))⟩
      have HEX := Lib.hid hex
      clear hex
      have HS1 := Lib.hid (show poss1 (cmp l k) b = (decide ((cmp l k).b ≤ highS (cmp l k).f b) && (decide ((cmp l k).k ≠ 2) || decide (lowS (cmp l k).f b ≤ (cmp l k).b))) from rfl)
      generalize hcm : cmp l k = c at *
      generalize hhi : highS c.f b = hi at *
      generalize hlo : lowS c.f b = lo at *
      have HCM := Lib.hid hcm
      have hwk : IntKind.i64.wrap ((k : Int) + 1) = (k : Int) + 1 := IntWalk.i64_in _ (by omega)
      clear hok hf hcm hhi hlo
      by_cases hb1 : hi < c.b
      case pos =>
        have HBAD := Lib.hid (poss_bad (b := b) hlt (by rw [HCM.out, HS1.out, decide_eq_false (by omega)]; rfl))
        have hd1 : decide (hi < c.b) = true := decide_eq_true hb1
        clear hb1
        go_wp2
        go_quiet ((go_at_call 37; exact Calls.quiet_of (HEX.out _ _ (by decide))))
        go_wp2
        go_ret
        exact ⟨ret_val (by rw [HBAD.out]; rfl), _, by rw [HW9.out, World.drewN_drewN]⟩
      case neg =>
        have hd1 : decide (hi < c.b) = false := decide_eq_false hb1
        by_cases hk2 : c.k = 2
        case neg =>
          have HG := Lib.hid (show poss1 (cmp l k) b = true by rw [HCM.out, HS1.out, decide_eq_true (by omega), decide_eq_true hk2]; rfl)
          have he2 : (c.k == 2) = false := by simpa using hk2
          clear hb1 hk2
          go_wp2
          go_quiet ((go_at_call 37; exact Calls.quiet_of (HEX.out _ _ (by decide))))
          go_wp2
          go_roundw
          case rel => exact ⟨k + 1, by omega, by go_num, all_step HJ.out HG.out, _, by rw [HW9.out, World.drewN_drewN]⟩
          case measure => simp [intOf]; omega
        case pos =>
          have he2 : (c.k == 2) = true := by simpa using hk2
          by_cases hsb : c.b < lo
          case pos =>
            have HBAD := Lib.hid (poss_bad (b := b) hlt (by rw [HCM.out, HS1.out, decide_eq_false (show ¬ lo ≤ c.b by omega), hk2]; simp))
            have hd2 : decide (c.b < lo) = true := decide_eq_true hsb
            clear hb1 hk2 hsb
            go_wp2
            go_quiet ((go_at_call 37; exact Calls.quiet_of (HEX.out _ _ (by decide))))
            go_wp2
            go_ret
            exact ⟨ret_val (by rw [HBAD.out]; rfl), _, by rw [HW9.out, World.drewN_drewN]⟩
          case neg =>
            have HG := Lib.hid (show poss1 (cmp l k) b = true by rw [HCM.out, HS1.out, decide_eq_true (show c.b ≤ hi by omega), decide_eq_true (show lo ≤ c.b by omega)]; simp)
            have hd2 : decide (c.b < lo) = false := decide_eq_false hsb
            clear hb1 hk2 hsb
            go_wp2
            go_quiet ((go_at_call 37; exact Calls.quiet_of (HEX.out _ _ (by decide))))
            go_wp2
            go_roundw
            case rel => exact ⟨k + 1, by omega, by go_num, all_step HJ.out HG.out, _, by rw [HW9.out, World.drewN_drewN]⟩
            case measure => simp [intOf]; omega
end Go.Proofs.Ytiafplmaigpmeaa
