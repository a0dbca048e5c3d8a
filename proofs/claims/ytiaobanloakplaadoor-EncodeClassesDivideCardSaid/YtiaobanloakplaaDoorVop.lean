/- A task that came in, opened; the table of math/bits out of the row's condition. -/
import Derived.Test.YtiaobanloakplaaDoorKpl
import Derived.ProofKit
import Derived.OpenShut
import Derived.LaidMore
import Derived.Stop.Joined
import Derived.Lib.SmallJoins
import Derived.Lib.LaidTab
import Derived.Deep.SlicePairs
namespace Go.Proofs.YtiaobanloakplaaDoor
open Go.ChangeShapes Go.WideShapes Go.ChangeAt Go.RowKit
set_option linter.unusedSimpArgs false
set_option linter.unusedVariables false
set_option maxRecDepth 100000

theorem own_ : ownKnob Tryd.prog.godebug = none := by kernel_rfl
theorem laidOut_ : laidOutB Tryd.prog = true := by kernel_rfl
def intV : Value → Int | .int _ n => n | _ => 0

section
variable {H : Type} {enc : TypeId × Value → H} {W : World} {base : Nat} {spare : Nat → Bool} {held : Bool}
theorem open_nums {fuel : Nat} {v : Value} {x : DataW H × List MemPlace} (h : DataW.trod enc Tryd.prog W base spare held fuel 22 [v] = some x) :
    ∃ (A : Option Addr) (c : Nat) (xs : List Int), v = .slice A xs.length c ∧ Lst W W.heap.size A c xs ∧ (A = none → c = 0) := by
  have ce : Tryd.prog.cellsOf 3 = 1 := by kernel_rfl
  rcases Go.Deep.open_slice1 Tryd.underlying22 ce h with ⟨hcs, _⟩ | ⟨ad, len, cap, m, n, V, D, Pl, hcs, hb, hl, hm, hmm, _, hx⟩
  · simp at hcs
    subst hcs
    exact ⟨none, 0, [], rfl, lst_nil _ _, fun _ => rfl⟩
  · simp at hcs
    subst hcs
    have hlm : len ≤ m := by rw [hmm]; split <;> omega
    have each : ∀ i, i < len → W.cell? (ad.add i) = some (.int .i64 (intV (V i))) := by
      intro i hil
      obtain ⟨g0, t0⟩ := hx i (by omega)
      obtain ⟨z, e0, _, hwf⟩ := DataW.trod_int Tryd.underlying3 t0
      simp at e0
      rw [g0, e0]
      rfl
    have hix : ∀ k, k < len → ix ((List.range len).map fun i => intV (V i)) k = intV (V k) := fun k hk => by simp [ix, List.getD, hk]
    refine ⟨some ad, cap, (List.range len).map fun i => intV (V i), by simp, ⟨fun hk => ?_, by simpa using hl, hm⟩, fun e => by cases e⟩
    have hk0 : 0 < len := by simpa using hk
    have g0 := each 0 hk0
    simp [Addr.add] at g0
    have hsp := World.cell?_spot g0
    have hbl := World.block_lt_of_cell? _ _ g0
    obtain ⟨b, o, sp⟩ := ad
    simp only at hsp
    subst hsp
    refine ⟨b, o, rfl, hbl, fun k hk => ?_⟩
    have hk' : k < len := by simpa using hk
    have q0 := each k hk'
    rw [Addr.add_lit] at q0
    rw [hix k hk']
    exact q0
structure Kid (W : World) (v : Value) (A : Option Addr) (c : Nat) (xs : List Int) : Prop where
  eq : v = .slice A xs.length c
  lst : Lst W W.heap.size A c xs
/-- One operator in its four cells. -/
structure OpAt (W : World) (ad : Addr) (i : Nat) (q : Opr × (Option Addr × Nat) × (Option Addr × Nat) × (Option Addr × Nat)) : Prop where
  c0 : W.cell? (ad.add (i * 4)) = some (.slice q.2.1.1 q.1.pre.length q.2.1.2)
  c1 : W.cell? (ad.add (i * 4 + 1)) = some (.slice q.2.2.1.1 q.1.add.length q.2.2.1.2)
  c2 : W.cell? (ad.add (i * 4 + 2)) = some (.slice q.2.2.2.1 q.1.del.length q.2.2.2.2)
  c3 : W.cell? (ad.add (i * 4 + 3)) = some (.int .i64 q.1.cost)
  l0 : Lst W W.heap.size q.2.1.1 q.2.1.2 q.1.pre
  l1 : Lst W W.heap.size q.2.2.1.1 q.2.2.1.2 q.1.add
  l2 : Lst W W.heap.size q.2.2.2.1 q.2.2.2.2 q.1.del
theorem open_ops {fuel : Nat} {v : Value} {x : DataW H × List MemPlace} (h : DataW.trod enc Tryd.prog W base spare held fuel 23 [v] = some x) :
    ∃ (A : Option Addr) (c : Nat) (os : List Opr), v = .slice A os.length c ∧ Oprs W W.heap.size A os ∧ os.length ≤ c ∧ c ≤ maxLen := by
  have ce : Tryd.prog.cellsOf 79 = 4 := by kernel_rfl
  have cs1 : Tryd.prog.cellsOf 22 = 1 := by kernel_rfl
  have ci1 : Tryd.prog.cellsOf 3 = 1 := by kernel_rfl
  rcases Go.Deep.open_slice Tryd.underlying23 h with ⟨hcs, _⟩ | ⟨ad, len, cap, m, n, D, Pl, hcs, hb, hl, hm, hmm, _, hx⟩
  · simp at hcs
    subst hcs
    exact ⟨none, 0, [], rfl, fun h0 => by simp at h0, by simp, by simp [maxLen]⟩
  · simp at hcs
    subst hcs
    have hlm : len ≤ m := by rw [hmm]; split <;> omega
    have each : ∀ i, i < len → ∃ q : Opr × (Option Addr × Nat) × (Option Addr × Nat) × (Option Addr × Nat), OpAt W ad i q := by
      intro i hil
      obtain ⟨cs', h1, h2⟩ := hx i (by omega)
      rw [ce] at h1
      obtain ⟨_, hlen, hcell⟩ := World.cells?_some h1
      obtain ⟨y0, y1, y2, y3, k, _, _, g0, g1, g2, g3⟩ := Joins.trod_struct4 Tryd.underlying79 h2
      match cs', hlen with
      | [v0, v1, v2, v3], _ =>
        simp [cs1, ci1] at g0 g1 g2 g3
        have e0 := hcell 0 (by omega)
        have e1 := hcell 1 (by omega)
        have e2 := hcell 2 (by omega)
        have e3 := hcell 3 (by omega)
        simp only [Go.Deep.add_add] at e0 e1 e2 e3
        obtain ⟨A0, c0, xs0, rfl, l0, _⟩ := open_nums g0
        obtain ⟨A1, c1, xs1, rfl, l1, _⟩ := open_nums g1
        obtain ⟨A2, c2, xs2, rfl, l2, _⟩ := open_nums g2
        obtain ⟨z, e, _, _⟩ := DataW.trod_int Tryd.underlying3 g3
        simp at e
        subst e
        exact ⟨(⟨xs0, xs1, xs2, z⟩, (A0, c0), (A1, c1), (A2, c2)), by simpa using e0, by simpa using e1, by simpa using e2, by simpa using e3, l0, l1, l2⟩
    obtain ⟨q, hq⟩ := Go.Deep.choose_lt each
    have hop : ∀ k, k < len → opr ((List.range len).map fun i => (q i).1) k = (q k).1 := fun k hk => by simp [opr, List.getD, hk]
    refine ⟨some ad, cap, (List.range len).map fun i => (q i).1, by simp, fun hk => ?_, by simpa using hl, hm⟩
    have hk0 : 0 < len := by simpa using hk
    have g0 := (hq 0 hk0).c0
    simp [Addr.add] at g0
    have hsp := World.cell?_spot g0
    have hbl := World.block_lt_of_cell? _ _ g0
    obtain ⟨b, o, sp⟩ := ad
    simp only at hsp
    subst hsp
    refine ⟨b, o, rfl, hbl, fun k hk => ?_⟩
    have hk' : k < len := by simpa using hk
    rw [hop k hk']
    have hQ := hq k hk'
    have c0 := hQ.c0
    have c1 := hQ.c1
    have c2 := hQ.c2
    have c3 := hQ.c3
    rw [Addr.add_lit] at c0 c1 c2 c3
    exact ⟨(q k).2.1.1, (q k).2.2.1.1, (q k).2.2.2.1, (q k).2.1.2, (q k).2.2.1.2, (q k).2.2.2.2, ⟨c0, c1, c2, c3⟩, ⟨hQ.l0, hQ.l1, hQ.l2⟩⟩
theorem open_numsT {r : Reach} {b0 : Nat} {v : Value} {d : DataW H} {p : List MemPlace} (hv : Value.okWide Tryd.prog W r b0 22 v) (h : DataW.Trod enc Tryd.prog W base spare held 22 v d p) :
    ∃ (A : Option Addr) (c : Nat) (xs : List Int), v = .slice A xs.length c ∧ Lst W W.heap.size A c xs ∧ (A = none → c = 0) := by
  obtain ⟨a, len, cap, rfl⟩ := okWide_slice Tryd.underlying22 hv
  obtain ⟨fuel, hf⟩ := h
  exact open_nums (v := .slice a len cap) (by simpa [Value.cells] using hf)
theorem open_task {r : Reach} {b0 : Nat} {v : Value} {d : DataW H} {p : List MemPlace} (hv : Value.okWide Tryd.prog W r b0 25 v) (h : DataW.Trod enc Tryd.prog W base spare held 25 v d p) :
    ∃ x : Tsk, v = .agg #[.int .i64 x.n, .slice x.ai x.init.length x.ci, .slice x.ag x.goal.length x.cg, .slice x.ao x.ops.length x.co] ∧ TskIn W W.heap.size x := by
  obtain ⟨v0, v1, v2, v3, y0, y1, y2, y3, n, rfl, _, _, g0, g1, g2, g3⟩ := Joins.open_agg4 Tryd.underlying25 (by kernel_rfl) (by kernel_rfl) hv h
  obtain ⟨z, e, _, _⟩ := DataW.trod_int Tryd.underlying3 g0
  simp at e
  subst e
  obtain ⟨A1, c1, xs1, rfl, l1, _⟩ := open_nums g1
  obtain ⟨A2, c2, xs2, rfl, l2, _⟩ := open_nums g2
  obtain ⟨A3, c3, os, rfl, h3, hl, hm⟩ := open_ops g3
  exact ⟨⟨z, xs1, xs2, os, A1, A2, A3, c1, c2, c3⟩, rfl, l1, l2, h3, hl, hm⟩
end

theorem gTab : Tryd.prog.globalNamed "math/bits.deBruijn64tab" = some 0 := by kernel_rfl
abbrev laid1 : List (String × DataW Unit) := [("math/bits.deBruijn64tab", Rows.laid_math_bits_deBruijn64tab)]
def tabZ : List Int := Lib.deBruijn64tab.map fun (n : Nat) => (n : Int)
theorem laid_eq : (Rows.laid_math_bits_deBruijn64tab : DataW Unit) = Lib.tabData .u8 tabZ := by kernel_rfl
theorem tab_of_laid {W : World} (h : laidMetH Tryd.prog laid1 W) : TabIn W := by
  rw [MakeChecks.laidMetH_plain _ _ _ (by kernel_rfl)] at h
  unfold laid1 at h
  rw [laid_eq] at h
  have hT : Lib.TabIs Tryd.prog W "math/bits.deBruijn64tab" .u8 tabZ := Lib.tabIs_of_head gTab (t := 127) (e := 5) (n := 64) (by kernel_rfl) (by kernel_rfl) (by kernel_rfl) (by kernel_rfl) (by kernel_rfl) h
  have hc : ∀ j, j < 64 → W.cell? ⟨0, j, none⟩ = some (.int .u8 (tabZ.getD j 0)) := fun j hj => hT.cell gTab j hj
  exact ⟨World.block_lt_of_cell? _ _ (hc 0 (by omega)), fun j hj => by
    have h64 : j < 64 := hj
    rw [hc j h64]
    unfold tabZ
    simp [List.getD, hj]⟩
/-- The heap that the program's own initialisers leave meets the row's condition. -/
theorem door_met (os : Os) (args : Array Value) : laidMetH Tryd.prog laid1 ((World.doorLaid Tryd.prog 400 os).forCall (fun _ _ => 0) ⟨#[], args, []⟩).memory :=
  laidMetH_of_parts3 (fuel := 8) (laidMet_of_run' 8 (by kernel_rfl) (by kernel_rfl)) (by kernel_rfl) (by kernel_rfl)
end Go.Proofs.YtiaobanloakplaaDoor
