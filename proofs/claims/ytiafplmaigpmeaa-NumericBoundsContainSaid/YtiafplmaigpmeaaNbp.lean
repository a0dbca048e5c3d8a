/- Intervals step by step: pure facts, and rows of intervals. -/
import Derived.Test.YtiafplmaigpmeaaNco
import Derived.Test.YtiafplmaigpmeaaNsb
namespace Go.Proofs.Ytiafplmaigpmeaa
open Go.RowKit
set_option linter.unusedSimpArgs false
set_option linter.unusedVariables false
set_option maxRecDepth 100000

def up1 (p : Int × Int) (lo hi : Int) : Int × Int := (max (-1000000) (min p.1 lo), min 1000000 (max p.2 hi))
def updC (b w : List (Int × Int)) (c : Chg) : List (Int × Int) := w.set c.v.toNat (up1 (prx w c.v.toNat) (lowS c.f b + c.c) (highS c.f b + c.c))
def chK (b : List (Int × Int)) (ch : List Chg) (w : List (Int × Int)) : Nat → List (Int × Int)
  | 0 => w
  | j + 1 => updC b (chK b ch w j) (chg ch j)
def opK (x : NT) (b : List (Int × Int)) : Nat → List (Int × Int)
  | 0 => b
  | k + 1 => if poss (nop x.ops k).pre b then chK b (nop x.ops k).ch (opK x b k) (nop x.ops k).ch.length else opK x b k
def bdn (x : NT) : Nat → List (Int × Int)
  | 0 => x.init.map (fun z => (z, z))
  | s + 1 => opK x (bdn x s) x.ops.length
theorem prx_set {w : List (Int × Int)} {m k : Nat} {p : Int × Int} (hm : m < w.length) : prx (w.set m p) k = if k = m then p else prx w k := by
  unfold prx
  rw [List.getD_eq_getElem?_getD, List.getElem?_set]
  by_cases e : m = k
  · subst e
    simp [hm]
  · rw [if_neg e, if_neg (fun h => e h.symm), List.getD_eq_getElem?_getD]
theorem up1_bd {p : Int × Int} {lo hi : Int} (h1 : -1000000 ≤ p.1 ∧ p.1 ≤ 1000000) (h2 : -1000000 ≤ p.2 ∧ p.2 ≤ 1000000) :
    (-1000000 ≤ (up1 p lo hi).1 ∧ (up1 p lo hi).1 ≤ 1000000) ∧ (-1000000 ≤ (up1 p lo hi).2 ∧ (up1 p lo hi).2 ≤ 1000000) := by
  unfold up1
  simp only
  omega
theorem updC_ok {n : Nat} {b w : List (Int × Int)} {c : Chg} (hw : BOk n w) : BOk n (updC b w c) := by
  have hl : (updC b w c).length = w.length := by simp [updC]
  have key : ∀ k, k < w.length → (-1000000 ≤ (prx (updC b w c) k).1 ∧ (prx (updC b w c) k).1 ≤ 1000000) ∧ (-1000000 ≤ (prx (updC b w c) k).2 ∧ (prx (updC b w c) k).2 ≤ 1000000) := by
    intro k hk
    unfold updC
    by_cases hm : c.v.toNat < w.length
    · rw [prx_set hm]
      split
      · exact up1_bd (hw.lo _ hm) (hw.hi _ hm)
      · exact ⟨hw.lo k hk, hw.hi k hk⟩
    · rw [List.set_eq_of_length_le (by omega)]
      exact ⟨hw.lo k hk, hw.hi k hk⟩
  exact ⟨hl.trans hw.len, fun k hk => (key k (by omega)).1, fun k hk => (key k (by omega)).2⟩
theorem chK_ok {n : Nat} {b w : List (Int × Int)} {ch : List Chg} (hw : BOk n w) : ∀ j, BOk n (chK b ch w j)
  | 0 => hw
  | j + 1 => updC_ok (chK_ok hw j)
theorem opK_ok {n : Nat} {x : NT} {b : List (Int × Int)} (hb : BOk n b) : ∀ k, BOk n (opK x b k)
  | 0 => hb
  | k + 1 => by
    rw [opK]
    split
    · exact chK_ok (opK_ok hb k) _
    · exact opK_ok hb k
theorem bdn_ok {x : NT} (hv : NVal x) : ∀ s, BOk x.init.length (bdn x s)
  | 0 => by
    have key : ∀ k, k < x.init.length → prx (bdn x 0) k = (ix x.init k, ix x.init k) := fun k hk => by simp [bdn, prx, ix, List.getD, hk]
    have hl : (bdn x 0).length = x.init.length := by simp [bdn]
    exact ⟨hl, fun k hk => by rw [key k (by omega)]; exact hv.init k (by omega), fun k hk => by rw [key k (by omega)]; exact hv.init k (by omega)⟩
  | s + 1 => opK_ok (bdn_ok hv s) _

/-- The cells of intervals, one behind the other. -/
def fl : List (Int × Int) → List Value
  | [] => []
  | p :: b => .int .i64 p.1 :: .int .i64 p.2 :: fl b
theorem fl_len : ∀ b, (fl b).length = b.length * 2
  | [] => rfl
  | p :: b => by simp [fl, fl_len b]; omega
theorem fl_app : ∀ a b, fl (a ++ b) = fl a ++ fl b
  | [], b => rfl
  | p :: a, b => by simp [fl, fl_app a b]
theorem fl_at : ∀ {b : List (Int × Int)} {k : Nat}, k < b.length → (fl b)[k * 2]? = some (.int .i64 (prx b k).1) ∧ (fl b)[k * 2 + 1]? = some (.int .i64 (prx b k).2)
  | [], k, h => by simp at h
  | p :: b, 0, _ => by simp [fl, prx]
  | p :: b, k + 1, h => by
    have ih := fl_at (b := b) (k := k) (by simpa using h)
    rw [show (k + 1) * 2 = k * 2 + 1 + 1 by omega]
    simpa [fl, prx, List.getD] using ih
theorem fl_one {b : List (Int × Int)} : ∀ u ∈ fl b, u.oneCell' = true := by
  induction b with
  | nil => intro u hu; cases hu
  | cons p b ih =>
    intro u hu
    simp only [fl, List.mem_cons] at hu
    rcases hu with rfl | rfl | hu
    · rfl
    · rfl
    · exact ih u hu
theorem fl_lo : ∀ {b : List (Int × Int)} {k : Nat} {z : Int}, k < b.length → (fl b).set (k * 2) (.int .i64 z) = fl (b.set k (z, (prx b k).2))
  | [], k, z, h => by simp at h
  | p :: b, 0, z, _ => by simp [fl, prx]
  | p :: b, k + 1, z, h => by
    have ih := fl_lo (b := b) (k := k) (z := z) (by simpa using h)
    rw [show (k + 1) * 2 = k * 2 + 1 + 1 by omega]
    simpa [fl, prx, List.getD] using ih
theorem fl_hi : ∀ {b : List (Int × Int)} {k : Nat} {z : Int}, k < b.length → (fl b).set (k * 2 + 1) (.int .i64 z) = fl (b.set k ((prx b k).1, z))
  | [], k, z, h => by simp at h
  | p :: b, 0, z, _ => by simp [fl, prx]
  | p :: b, k + 1, z, h => by
    have ih := fl_hi (b := b) (k := k) (z := z) (by simpa using h)
    rw [show (k + 1) * 2 + 1 = k * 2 + 1 + 1 + 1 by omega]
    simpa [fl, prx, List.getD] using ih
/-- A row of intervals of the call's own. -/
abbrev OwP (W : World) (base : Nat) (v : Value) (b : List (Int × Int)) : Prop := W.ownsRow base 50 2 v b.length (fl b)
theorem owp_prl {W : World} {base : Nat} {v : Value} {b : List (Int × Int)} (h : OwP W base v b) : ∃ a c, v = .slice a b.length c ∧ PrL W W.heap.size a c b := by
  rcases h.2 with ⟨rfl, h0⟩ | ⟨g, cap, cur, rfl, hb, hh, hn, hm, hs, ht⟩
  · exact ⟨none, 0, by rw [h0], fun h1 => by omega, by omega, by simp [maxLen]⟩
  · refine ⟨_, _, rfl, fun h1 => ⟨g, 0, rfl, (Array.getElem?_eq_some_iff.1 hh).1, fun k hk => ?_⟩, hn, hm⟩
    have hc := h.cells (g := g) rfl
    have h2 := fl_at hk
    have e1 := hc _ _ h2.1
    have e2 := hc _ _ h2.2
    rw [Addr.add_lit] at e1 e2
    exact ⟨e1, by rw [show 0 + k * 2 + 1 = 0 + (k * 2 + 1) by omega]; exact e2⟩
theorem OwP.lo {W : World} {base g cap : Nat} {b : List (Int × Int)} (h : OwP W base (.slice (some ⟨g, 0, none⟩) b.length cap) b) {k : Nat} (hk : k < b.length) (z : Int) :
    OwP (W.setCell ⟨g, k * 2, none⟩ (.int .i64 z)) base (.slice (some ⟨g, 0, none⟩) (b.set k (z, (prx b k).2)).length cap) (b.set k (z, (prx b k).2)) := by
  have := (h.stored (k * 2) (.int .i64 z)).1
  rw [fl_lo hk] at this
  simp only [OwP, List.length_set]
  exact this
theorem OwP.hi {W : World} {base g cap : Nat} {b : List (Int × Int)} (h : OwP W base (.slice (some ⟨g, 0, none⟩) b.length cap) b) {k : Nat} (hk : k < b.length) (z : Int) :
    OwP (W.setCell ⟨g, k * 2 + 1, none⟩ (.int .i64 z)) base (.slice (some ⟨g, 0, none⟩) (b.set k ((prx b k).1, z)).length cap) (b.set k ((prx b k).1, z)) := by
  have := (h.stored (k * 2 + 1) (.int .i64 z)).1
  rw [fl_hi hk] at this
  simp only [OwP, List.length_set]
  exact this
end Go.Proofs.Ytiafplmaigpmeaa
