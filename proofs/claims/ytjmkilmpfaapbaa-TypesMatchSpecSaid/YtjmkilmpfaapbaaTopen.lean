/- A slice of entries (a string and a number) that came in, opened. -/
import Derived.Test.YtjmkilmpfaapbaaTmem
import Derived.ProofKit
import Derived.OpenShut
import Derived.ShutString
import Derived.ChangeOld
import Derived.Deep.SlicePairs
namespace Go.Proofs.Ytjmkilmpfaapbaa
open Go.ChangeShapes Go.WideShapes Go.ChangeAt Go.RowKit
set_option linter.unusedSimpArgs false
set_option linter.unusedVariables false
set_option maxRecDepth 100000

theorem own_ : ownKnob Try.prog.godebug = none := by kernel_rfl
theorem laidOut_ : laidOutB Try.prog = true := by kernel_rfl

def strV : Value → ByteArray | .string s => s | _ => ByteArray.empty
def intV : Value → Int | .int _ n => n | _ => 0

theorem open_ents {H : Type} {enc : TypeId × Value → H} {P : Program} {W : World} {base : Nat} {spare : Nat → Bool} {held : Bool} {t e ts ti : TypeId} {f0 f1 : Field} {a : Option Addr} {len cap : Nat} {d : DataW H} {p : List MemPlace}
    (ht : P.underlying t = some (.slice e)) (he : P.underlying e = some (.struct #[f0, f1])) (ce : P.cellsOf e = 2) (o0 : f0.offset = 0) (o1 : f1.offset = 1) (h0 : f0.type = ts) (h1 : f1.type = ti) (c0 : P.cellsOf ts = 1) (c1 : P.cellsOf ti = 1)
    (hs : P.underlying ts = some .string) (hi : P.underlying ti = some (.int .i64)) (h : DataW.Trod enc P W base spare held t (.slice a len cap) d p) :
    ∃ l : List Ent, l.length = len ∧ len ≤ cap ∧ cap ≤ maxLen ∧ Ents W W.heap.size a l := by
  subst h0 h1
  obtain ⟨fuel, hf⟩ := h
  rcases Go.Deep.open_slice_pairs ht he ce o0 o1 c0 c1 hf with ⟨hcs, _⟩ | ⟨ad, len', cap', m, n, V0, V1, D0, D1, P0, P1, hcs, hb, hl, hm, hmm, _, hx⟩
  · simp [Value.cells] at hcs
    obtain ⟨rfl, rfl, rfl⟩ := hcs
    exact ⟨[], rfl, by omega, by simp [maxLen], fun k => by simp [nm, maxLen], fun hk => by simp at hk⟩
  · simp [Value.cells] at hcs
    obtain ⟨rfl, rfl, rfl⟩ := hcs
    have hlm : len ≤ m := by rw [hmm]; split <;> omega
    have each : ∀ i, i < len → W.cell? (ad.add (i * 2)) = some (.string (strV (V0 i))) ∧ W.cell? (ad.add (i * 2 + 1)) = some (.int .i64 (intV (V1 i))) ∧ (strV (V0 i)).size ≤ maxLen := by
      intro i hil
      obtain ⟨g0, g1, t0, t1⟩ := hx i (by omega)
      obtain ⟨s, e0, _, hsz⟩ := DataW.trod_string hs t0
      obtain ⟨z, e1, _, _⟩ := DataW.trod_int hi t1
      simp at e0 e1
      rw [g0, g1, e0, e1]
      exact ⟨rfl, rfl, hsz⟩
    have hnm : ∀ k, k < len → nm ((List.range len).map fun i => (strV (V0 i), intV (V1 i))) k = strV (V0 k) := fun k hk => by simp [nm, List.getD, hk]
    have hpr : ∀ k, k < len → pr ((List.range len).map fun i => (strV (V0 i), intV (V1 i))) k = intV (V1 k) := fun k hk => by simp [pr, List.getD, hk]
    refine ⟨(List.range len).map fun i => (strV (V0 i), intV (V1 i)), by simp, hl, hm, fun k => ?_, fun hk => ?_⟩
    · by_cases hk : k < len
      · rw [hnm k hk]; exact (each k hk).2.2
      · simp [nm, List.getD, hk, maxLen]
    · have hk0 : 0 < len := by simpa using hk
      have g0 := (each 0 hk0).1
      simp [Addr.add] at g0
      have hsp := World.cell?_spot g0
      have hbl := World.block_lt_of_cell? _ _ g0
      obtain ⟨b, o, sp⟩ := ad
      simp only at hsp
      subst hsp
      refine ⟨b, o, rfl, hbl, fun k hk => ?_⟩
      have hk' : k < len := by simpa using hk
      obtain ⟨q0, q1, _⟩ := each k hk'
      rw [Addr.add_lit] at q0 q1
      rw [hnm k hk', hpr k hk']
      exact ⟨q0, q1⟩

end Go.Proofs.Ytjmkilmpfaapbaa
