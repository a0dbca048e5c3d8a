/- A list of lists that came in, opened. -/
import Derived.Test.YtiaobanloakplaaDoorVop
import Derived.Test.YtiaobanloakplaaDoorEmm
namespace Go.Proofs.YtiaobanloakplaaDoor
open Go.ChangeShapes Go.WideShapes Go.ChangeAt Go.RowKit
set_option linter.unusedSimpArgs false
set_option linter.unusedVariables false
set_option maxRecDepth 100000

section
variable {H : Type} {enc : TypeId × Value → H} {W : World} {base : Nat} {spare : Nat → Bool} {held : Bool}
structure LsAt (W : World) (ad : Addr) (i : Nat) (q : List Int × Option Addr × Nat) : Prop where
  c0 : W.cell? (ad.add i) = some (.slice q.2.1 q.1.length q.2.2)
  l0 : LstN W q.2.1 q.2.2 q.1
theorem open_lists {fuel : Nat} {v : Value} {x : DataW H × List MemPlace} (h : DataW.trod enc Tryd.prog W base spare held fuel 26 [v] = some x) :
    ∃ (A : Option Addr) (c : Nat) (gs : List (List Int)), v = .slice A gs.length c ∧ RwsN W A gs ∧ gs.length ≤ c ∧ c ≤ maxLen := by
  have ce : Tryd.prog.cellsOf 22 = 1 := by kernel_rfl
  rcases Go.Deep.open_slice1 Tryd.underlying26 ce h with ⟨hcs, _⟩ | ⟨ad, len, cap, m, n, V, D, Pl, hcs, hb, hl, hm, hmm, _, hx⟩
  · simp at hcs
    subst hcs
    exact ⟨none, 0, [], rfl, fun h0 => by simp at h0, by simp, by simp [maxLen]⟩
  · simp at hcs
    subst hcs
    have hlm : len ≤ m := by rw [hmm]; split <;> omega
    have each : ∀ i, i < len → ∃ q : List Int × Option Addr × Nat, LsAt W ad i q := by
      intro i hil
      obtain ⟨g0, t0⟩ := hx i (by omega)
      obtain ⟨A0, c0, xs0, e0, l0, hz0⟩ := open_nums t0
      exact ⟨(xs0, A0, c0), by rw [g0, e0], l0, hz0⟩
    obtain ⟨q, hq⟩ := Go.Deep.choose_lt each
    have hop : ∀ k, k < len → rw_ ((List.range len).map fun i => (q i).1) k = (q k).1 := fun k hk => by simp [rw_, List.getD, hk]
    refine ⟨some ad, cap, (List.range len).map fun i => (q i).1, by simp, fun hk => ?_, by simpa using hl, hm⟩
    have hk0 : 0 < len := by simpa using hk
    have g0 := (hq 0 hk0).c0
    simp [Addr.add] at g0
    have hsp := World.cell?_spot g0
    have hbl := World.block_lt_of_cell? _ _ g0
    obtain ⟨b, o, sp⟩ := ad
    simp only at hsp
    subst hsp
    refine ⟨b, o, rfl, hbl, fun k hk => ?_⟩
    have hk' : k < len := by simpa using hk
    rw [hop k hk']
    have c0 := (hq k hk').c0
    rw [Addr.add_lit] at c0
    exact ⟨(q k).2.1, (q k).2.2, c0, (hq k hk').l0⟩
theorem open_listsT {r : Reach} {b0 : Nat} {v : Value} {d : DataW H} {p : List MemPlace} (hv : Value.okWide Tryd.prog W r b0 26 v) (h : DataW.Trod enc Tryd.prog W base spare held 26 v d p) :
    ∃ (A : Option Addr) (c : Nat) (gs : List (List Int)), v = .slice A gs.length c ∧ RwsN W A gs ∧ gs.length ≤ c ∧ c ≤ maxLen := by
  obtain ⟨a, len, cap, rfl⟩ := okWide_slice Tryd.underlying26 hv
  obtain ⟨fuel, hf⟩ := h
  exact open_lists (v := .slice a len cap) (by simpa [Value.cells] using hf)
end
end Go.Proofs.YtiaobanloakplaaDoor
