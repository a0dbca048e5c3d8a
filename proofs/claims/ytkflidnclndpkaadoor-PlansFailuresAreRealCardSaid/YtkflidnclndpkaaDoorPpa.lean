/- Part of the reference: a walk over a list. -/
import Derived.Test.YtkflidnclndpkaaDoorPfr
namespace Go.Proofs.YtkflidnclndpkaaDoor
open Go.RowKit
set_option linter.unusedSimpArgs false
set_option linter.unusedVariables false
set_option maxRecDepth 100000

theorem partK_yes {l xs : List Int} {k : Nat} (h : partK l xs k < l.length) (e : ix xs k = ix l (partK l xs k)) : partK l xs (k + 1) = partK l xs k + 1 := by
  rw [partK, if_pos ⟨h, e⟩]
theorem partK_no {l xs : List Int} {k : Nat} (e : ¬ ix xs k = ix l (partK l xs k)) : partK l xs (k + 1) = partK l xs k := by
  rw [partK, if_neg (fun h => e h.2)]
theorem partB_end {l xs : List Int} {m : Nat} (hm : m ≤ xs.length) (h : partK l xs m = l.length) : partB l xs = true := by
  unfold partB
  exact decide_eq_true (partK_full h _ hm)
set_option maxHeartbeats 2000000 in
theorem part_any (a1 a2 : Option Addr) (c1 c2 : Nat) (l xs : List Int) (w : World) (h1 : Lst w w.heap.size a1 c1 l) (h2 : Lst w w.heap.size a2 c2 xs) :
    Calls Tryd.prog 21 #[.slice a1 l.length c1, .slice a2 xs.length c2] w fun e w' => e = .returned (.bool (partB l xs)) ∧ Below w.heap.size w w' := by
  have hl1 := h1.len
  have hl2 := h2.len
  unfold maxLen at hl1 hl2
  have H1 := Lib.hid h1
  have H2 := Lib.hid h2
  clear h1 h2
  go_enter Tryd.func21, Tryd.ntmps21
  go_wp2
  go_loopw [5, 6] (fun i k wr => ∃ m p : Nat, m ≤ xs.length ∧ k = .int .i64 m ∧ i = .int .i64 p ∧ partK l xs m = p ∧ p ≤ l.length ∧ Below w.heap.size w wr) (fun _ k _ => xs.length - (intOf k).toNat)
  case atStart => exact ⟨0, 0, by omega, rfl, rfl, rfl, by omega, by go_grown⟩
  case round =>
    obtain ⟨m, p, hm, rfl, rfl, hp, hpl, hbe⟩ := hrel
    have HPK := Lib.hid hp
    have HBE := Lib.hid hbe
    clear hp hbe
    by_cases hlt : m < xs.length
    case neg =>
      obtain rfl : m = xs.length := by omega
      have HR := Lib.hid (show partB l xs = decide (p = l.length) by unfold partB; rw [HPK.out])
      have hd : decide ((xs.length : Int) < (xs.length : Int)) = false := by simp
      by_cases he : p = l.length
      · subst he
        go_wp2
        go_ret
        exact ⟨ret_bool (by rw [HR.out]; simp), HBE.out⟩
      · have hq : ((p : Int) == (l.length : Int)) = false := by simp; omega
        have HE := Lib.hid he
        clear he
        go_wp2
        go_ret
        exact ⟨ret_bool (by rw [HR.out]; simp [HE.out]), HBE.out⟩
    case pos =>
      have hd : decide ((m : Int) < (xs.length : Int)) = true := by simp; omega
      by_cases he : p = l.length
      · have HR := Lib.hid (partB_end hm (HPK.out.trans he))
        subst he
        have hd2 : decide ((l.length : Int) < (l.length : Int)) = false := by simp
        go_wp2
        go_ret
        exact ⟨ret_bool (by rw [HR.out]), HBE.out⟩
      · have hlp : p < l.length := by omega
        have hd2 : decide ((p : Int) < (l.length : Int)) = true := by simp; omega
        obtain ⟨b1, o1, rfl, _, hc1⟩ := (H1.out.to HBE.out HBE.out.size).nums.at_ hlp
        obtain ⟨b2, o2, rfl, _, hc2⟩ := (H2.out.to HBE.out HBE.out.size).nums.at_ hlt
        clear he
        by_cases hx : ix xs m = ix l p
        · have hq : (ix xs m == ix l p) = true := by simpa using hx
          have HN := Lib.hid ((partK_yes (by rw [HPK.out]; exact hlp) (by rw [HPK.out]; exact hx)).trans (by rw [HPK.out]))
          clear hx
          go_wp2
          go_quiet (fail)
          go_wp2
          go_roundw
          case rel => exact ⟨m + 1, p + 1, hlt, by go_num, by go_num, HN.out, hlp, by have := HBE.out; (repeat' (first | (with_reducible assumption) | (with_reducible exact Below.refl _ _) | (with_reducible refine belowN ?_ _) | (with_reducible refine Below.alloc ?_ ?_ _) | (with_reducible refine Below.drew ?_) | (with_reducible refine Below.setCell ?_ ?_ _) | go_size))⟩
          case measure => simp [intOf]; omega
        · have hq : (ix xs m == ix l p) = false := by simpa using hx
          have HN := Lib.hid ((partK_no (by rw [HPK.out]; exact hx)).trans HPK.out)
          clear hx
          go_wp2
          go_quiet (fail)
          go_wp2
          go_roundw
          case rel => exact ⟨m + 1, p, hlt, by go_num, rfl, HN.out, hpl, by have := HBE.out; (repeat' (first | (with_reducible assumption) | (with_reducible exact Below.refl _ _) | (with_reducible refine belowN ?_ _) | (with_reducible refine Below.alloc ?_ ?_ _) | (with_reducible refine Below.drew ?_) | (with_reducible refine Below.setCell ?_ ?_ _) | go_size))⟩
          case measure => simp [intOf]; omega
end Go.Proofs.YtkflidnclndpkaaDoor
