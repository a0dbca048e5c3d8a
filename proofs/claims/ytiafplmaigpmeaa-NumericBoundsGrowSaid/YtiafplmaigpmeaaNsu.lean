/- A change by a constant: pure facts for the law NumericSums. -/
import Derived.Test.YtiafplmaigpmeaaNcx
namespace Go.Proofs.Ytiafplmaigpmeaa
open Go.RowKit
set_option linter.unusedSimpArgs false
set_option linter.unusedVariables false
set_option maxRecDepth 100000

def unit_ (m X : Nat) : List Int := (List.replicate m 0).set X 1
theorem unit_len (m X : Nat) : (unit_ m X).length = m := by simp [unit_]
theorem ix_unit {m X k : Nat} (hX : X < m) (hk : k < m) : ix (unit_ m X) k = if k = X then 1 else 0 := by
  unfold unit_ ix
  rw [List.getD_eq_getElem?_getD, List.getElem?_set]
  by_cases e : X = k
  · subst e
    simp [hX]
  · rw [if_neg e, if_neg (fun h => e h.symm)]
    simp [hk]
theorem smK_unit {m X : Nat} {v : List Int} (hX : X < m) : ∀ k, k ≤ m → smK (unit_ m X) v k = if X < k then ix v X else 0
  | 0, _ => by simp [smK]
  | k + 1, h => by
    rw [smK, smK_unit hX k (by omega), ix_unit hX (by omega)]
    by_cases e : k = X
    · subst e
      rw [if_neg (by omega), if_pos rfl, if_pos (by omega)]
      omega
    · rw [if_neg e]
      by_cases h1 : X < k
      · rw [if_pos h1, if_pos (by omega)]; omega
      · rw [if_neg h1, if_neg (by omega)]; omega
theorem sm_unit {m X : Nat} {v : List Int} (hX : X < m) : sm (unit_ m X) v = ix v X := by
  unfold sm
  rw [unit_len, smK_unit hX m (Nat.le_refl _), if_pos hX]
theorem ix_set {v : List Int} {X k : Nat} {z : Int} (hk : k < v.length) : ix (v.set X z) k = if k = X then z else ix v k := by
  unfold ix
  rw [List.getD_eq_getElem?_getD, List.getElem?_set]
  by_cases e : X = k
  · subst e
    simp [hk]
  · rw [if_neg e, if_neg (fun h => e h.symm), List.getD_eq_getElem?_getD]
theorem ix_ext {a b : List Int} (hl : a.length = b.length) (h : ∀ k, k < a.length → ix a k = ix b k) : a = b := by
  refine List.ext_getElem hl (fun k h1 h2 => ?_)
  have := h k h1
  simpa [ix, List.getD, h1, h2] using this
/-- The task of the law. -/
def suT (v : List Int) (X : Nat) (n : Int) (ai ao : Option Addr) (ci co : Nat) : NT := ⟨v, [], [⟨[], [], 0⟩, ⟨[], [⟨(X : Int), unit_ v.length X, n⟩], 0⟩], ai, none, ao, ci, 0, co⟩
section
variable {v : List Int} {X : Nat} {n : Int} {ai ao : Option Addr} {ci co : Nat}
theorem su_f (h1 : 1 ≤ v.length) (h8 : v.length ≤ 8) (hv : okL 1000000 v.length v = true) (hX : X < v.length) (hn : inB n (-1000) 1000 = true) : nfF (suT v X n ai ao ci co) = (0, 0) := by
  have hu : okL 1000 v.length (unit_ v.length X) = true := by
    refine okL_iff.2 ⟨unit_len _ _, fun k hk => ?_⟩
    rw [unit_len] at hk
    rw [ix_unit hX hk]
    split <;> omega
  have hx : inB (X : Int) 0 ((v.length : Int) - 1) = true := inB_iff.2 (by omega)
  have hc : hcode v.length [⟨(X : Int), unit_ v.length X, n⟩] = 0 := by
    unfold hcode
    simp [fz, ch1, chg, hx, hu, hn, List.range_succ]
  have hc0 : hcode v.length [] = 0 := rfl
  have hcc : ccode v.length [] = 0 := rfl
  have h100 : inB 0 0 100 = true := rfl
  unfold nfF suT
  simp only
  rw [if_neg (by omega), if_neg (by simp [hv]), if_neg (by simp [hcc]), if_neg (by simp)]
  simp [ofz, ocode, hcc, hc, hc0, h100]
theorem nvL_none : nvL [] v = v := by
  refine ix_ext (nvL_len _ _) (fun k hk => ?_)
  rw [nvL_len] at hk
  simp [nvL, ix, List.getD, hk, nvK]
theorem su_0 (h1 : 1 ≤ v.length) (h8 : v.length ≤ 8) (hv : okL 1000000 v.length v = true) (hX : X < v.length) (hn : inB n (-1000) 1000 = true) :
    napF (suT v X n ai ao ci co) v 0 = (0, 0) ∧ napL (suT v X n ai ao ci co) v 0 = v := by
  have hf := su_f (ai := ai) (ao := ao) (ci := ci) (co := co) h1 h8 hv hX hn
  have hna : naf (nop (suT v X n ai ao ci co).ops 0) v = (v, 0) := by
    show naf ⟨[], [], 0⟩ v = (v, 0)
    unfold naf
    rw [if_neg (by simp [sat]), nvL_none, if_neg (by simp [hv])]
  have e : napF (suT v X n ai ao ci co) v 0 = (0, 0) := by
    unfold napF
    rw [if_neg (by simp [hf]), if_neg (by simp [suT, hv]), if_neg (by simp [suT, inB])]
    show (if (naf (nop (suT v X n ai ao ci co).ops 0) v).2 ≠ 0 then _ else _) = _
    rw [hna]
    rfl
  refine ⟨e, ?_⟩
  unfold napL
  rw [if_pos (by rw [e])]
  show (naf (nop (suT v X n ai ao ci co).ops 0) v).1 = v
  rw [hna]
theorem nvL_one (hX : X < v.length) : nvL [⟨(X : Int), unit_ v.length X, n⟩] v = v.set X (ix v X + n) := by
  refine ix_ext (by rw [nvL_len, List.length_set]) (fun k hk => ?_)
  rw [nvL_len] at hk
  rw [ix_set hk]
  have : ix (nvL [⟨(X : Int), unit_ v.length X, n⟩] v) k = nvK [⟨(X : Int), unit_ v.length X, n⟩] v k 1 := by simp [nvL, ix, List.getD, hk]
  rw [this, nvK]
  simp only [chg, List.getD, List.getElem?_cons_zero, Option.getD_some, sm_unit hX]
  by_cases e : k = X
  · subst e; rw [if_pos rfl, if_pos rfl]
  · rw [if_neg (by omega), if_neg e]; rfl
theorem su_1 (h1 : 1 ≤ v.length) (h8 : v.length ≤ 8) (hv : okL 1000000 v.length v = true) (hX : X < v.length) (hn : inB n (-1000) 1000 = true) :
    if inB (ix v X + n) (-1000000) 1000000 then napF (suT v X n ai ao ci co) v 1 = (0, 0) ∧ napL (suT v X n ai ao ci co) v 1 = v.set X (ix v X + n)
    else napF (suT v X n ai ao ci co) v 1 = (10, 1) ∧ napL (suT v X n ai ao ci co) v 1 = [] := by
  have hf := su_f (ai := ai) (ao := ao) (ci := ci) (co := co) h1 h8 hv hX hn
  have hvv := (okL_iff.1 hv).2
  have hok : okL 1000000 v.length (v.set X (ix v X + n)) = inB (ix v X + n) (-1000000) 1000000 := by
    cases hi : inB (ix v X + n) (-1000000) 1000000
    · refine okL_bad (k := X) (by rw [List.length_set]; exact hX) ?_
      rw [ix_set hX, if_pos rfl, hi]
    · refine okL_iff.2 ⟨List.length_set .., fun k hk => ?_⟩
      rw [List.length_set] at hk
      rw [ix_set hk]
      split
      · exact inB_iff.1 hi
      · exact hvv k hk
  have hna : naf (nop (suT v X n ai ao ci co).ops 1) v = if inB (ix v X + n) (-1000000) 1000000 then (v.set X (ix v X + n), 0) else ([], 10) := by
    show naf ⟨[], [⟨(X : Int), unit_ v.length X, n⟩], 0⟩ v = _
    unfold naf
    rw [if_neg (by simp [sat]), nvL_one hX, hok]
    cases inB (ix v X + n) (-1000000) 1000000 <;> simp
  have e : napF (suT v X n ai ao ci co) v 1 = if (naf (nop (suT v X n ai ao ci co).ops 1) v).2 ≠ 0 then ((naf (nop (suT v X n ai ao ci co).ops 1) v).2, 1) else (0, 0) := by
    unfold napF
    rw [if_neg (by simp [hf]), if_neg (by simp [suT, hv]), if_neg (by simp [suT, inB])]
    rfl
  have e2 : napL (suT v X n ai ao ci co) v 1 = if (napF (suT v X n ai ao ci co) v 1).1 = 0 then (naf (nop (suT v X n ai ao ci co).ops 1) v).1 else [] := rfl
  rw [e2, e, hna]
  cases inB (ix v X + n) (-1000000) 1000000 <;> simp
end
end Go.Proofs.Ytiafplmaigpmeaa
