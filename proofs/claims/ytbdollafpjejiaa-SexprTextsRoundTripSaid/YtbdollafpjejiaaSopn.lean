/- An expression that came in, opened. -/
import Derived.Test.YtbdollafpjejiaaSrda
import Derived.ProofKit
import Derived.OpenShut
import Derived.ShutString
import Derived.ChangeOld
import Derived.ChangeMaps5
import Derived.Deep.SlicePairs
namespace Go.Proofs.Ytbdollafpjejiaa
open Go.ChangeShapes Go.WideShapes Go.ChangeAt Go.RowKit
set_option linter.unusedSimpArgs false
set_option linter.unusedVariables false
set_option maxRecDepth 100000

theorem own_ : ownKnob Try.prog.godebug = none := by kernel_rfl
theorem laidOut_ : laidOutB Try.prog = true := by kernel_rfl
def strV : Value → ByteArray | .string s => s | _ => ByteArray.empty
def intV : Value → Int | .int _ n => n | _ => 0

section
variable {H : Type} {enc : TypeId × Value → H} {P : Program} {W : World} {base : Nat} {spare : Nat → Bool} {held : Bool}
theorem open_nums {t e : TypeId} {fuel : Nat} {v : Value} {x : DataW H × List MemPlace} (ht : P.underlying t = some (.slice e)) (he : P.underlying e = some (.int .i64)) (ce : P.cellsOf e = 1) (h : DataW.trod enc P W base spare held fuel t [v] = some x) :
    ∃ (A : Option Addr) (c : Nat) (xs : List Int), v = .slice A xs.length c ∧ Nums W W.heap.size A xs ∧ xs.length ≤ c ∧ c ≤ maxLen ∧ ∀ k, k < xs.length → -9223372036854775808 ≤ ix xs k ∧ ix xs k ≤ 9223372036854775807 := by
  rcases Go.Deep.open_slice1 ht ce h with ⟨hcs, _⟩ | ⟨ad, len, cap, m, n, V, D, Pl, hcs, hb, hl, hm, hmm, _, hx⟩
  · simp at hcs
    subst hcs
    exact ⟨none, 0, [], rfl, fun h => by simp at h, Nat.le_refl _, by simp [maxLen], fun k hk => by simp at hk⟩
  · simp at hcs
    subst hcs
    have hlm : len ≤ m := by rw [hmm]; split <;> omega
    have each2 : ∀ i, i < len → W.cell? (ad.add i) = some (.int .i64 (intV (V i))) ∧ (Lit.int .i64 (intV (V i))).wf = true := by
      intro i hil
      obtain ⟨g0, t0⟩ := hx i (by omega)
      obtain ⟨z, e0, _, hwf⟩ := DataW.trod_int he t0
      simp at e0
      rw [g0, e0]
      exact ⟨rfl, hwf⟩
    have each : ∀ i, i < len → W.cell? (ad.add i) = some (.int .i64 (intV (V i))) := fun i hi => (each2 i hi).1
    have hix : ∀ k, k < len → ix ((List.range len).map fun i => intV (V i)) k = intV (V k) := fun k hk => by simp [ix, List.getD, hk]
    refine ⟨some ad, cap, (List.range len).map fun i => intV (V i), by simp, fun hk => ?_, by simpa using hl, hm, fun k hk => ?_⟩
    case' refine_2 =>
      have hk' : k < len := by simpa using hk
      rw [hix k hk']
      have := (each2 k hk').2
      simp only [Lit.wf, IntKind.min, IntKind.max, IntKind.signed, IntKind.bits, Bool.and_eq_true, decide_eq_true_eq, if_true] at this
      omega
    have hk0 : 0 < len := by simpa using hk
    have g0 := each 0 hk0
    simp [Addr.add] at g0
    have hsp := World.cell?_spot g0
    have hbl := World.block_lt_of_cell? _ _ g0
    obtain ⟨b, o, sp⟩ := ad
    simp only at hsp
    subst hsp
    refine ⟨b, o, rfl, hbl, fun k hk => ?_⟩
    have hk' : k < len := by simpa using hk
    have q0 := each k hk'
    rw [Addr.add_lit] at q0
    rw [hix k hk']
    exact q0
structure KidOf (W : World) (v : Value) (A : Option Addr) (c : Nat) (xs : List Int) : Prop where
  eq : v = .slice A xs.length c
  nums : Nums W W.heap.size A xs
  le : xs.length ≤ c
  max : c ≤ maxLen
  rng : ∀ k, k < xs.length → -9223372036854775808 ≤ ix xs k ∧ ix xs k ≤ 9223372036854775807
/-- The numbers of the children fit. -/
def Rng (ns : List Nd) : Prop := ∀ k m, k < ns.length → m < (ch ns k).length → -9223372036854775808 ≤ ix (ch ns k) m ∧ ix (ch ns k) m ≤ 9223372036854775807
theorem open_nodes {t e ts ti tn : TypeId} {f0 f1 : Field} {a : Option Addr} {len cap : Nat} {d : DataW H} {p : List MemPlace}
    (ht : P.underlying t = some (.slice e)) (he : P.underlying e = some (.struct #[f0, f1])) (ce : P.cellsOf e = 2) (o0 : f0.offset = 0) (o1 : f1.offset = 1) (h0 : f0.type = ts) (h1 : f1.type = ti) (c0 : P.cellsOf ts = 1) (c1 : P.cellsOf ti = 1)
    (hs : P.underlying ts = some .string) (hi : P.underlying ti = some (.slice tn)) (hn : P.underlying tn = some (.int .i64)) (cn : P.cellsOf tn = 1) (h : DataW.Trod enc P W base spare held t (.slice a len cap) d p) :
    ∃ l : List Nd, l.length = len ∧ len ≤ cap ∧ cap ≤ maxLen ∧ Nodes W W.heap.size a l ∧ Rng l := by
  subst h0 h1
  obtain ⟨fuel, hf⟩ := h
  rcases Go.Deep.open_slice_pairs ht he ce o0 o1 c0 c1 hf with ⟨hcs, _⟩ | ⟨ad, len', cap', m, n, V0, V1, D0, D1, P0, P1, hcs, hb, hl, hm, hmm, _, hx⟩
  · simp [Value.cells] at hcs
    obtain ⟨rfl, rfl, rfl⟩ := hcs
    exact ⟨[], rfl, by omega, by simp [maxLen], nodes_nil _ _ _, fun k m hk => by simp at hk⟩
  · simp [Value.cells] at hcs
    obtain ⟨rfl, rfl, rfl⟩ := hcs
    have hlm : len ≤ m := by rw [hmm]; split <;> omega
    have each : ∀ i, i < len → W.cell? (ad.add (i * 2)) = some (.string (strV (V0 i))) ∧ W.cell? (ad.add (i * 2 + 1)) = some (V1 i) ∧ (strV (V0 i)).size ≤ maxLen := by
      intro i hil
      obtain ⟨g0, g1, t0, t1⟩ := hx i (by omega)
      obtain ⟨s, e0, _, hsz⟩ := DataW.trod_string hs t0
      simp at e0
      rw [g0, g1, e0]
      exact ⟨rfl, rfl, hsz⟩
    have kid : ∀ i, i < len → ∃ q : Option Addr × Nat × List Int, KidOf W (V1 i) q.1 q.2.1 q.2.2 := by
      intro i hil
      obtain ⟨g0, g1, t0, t1⟩ := hx i (by omega)
      obtain ⟨A, c, xs, e1, e2, e3, e4, e5⟩ := open_nums hi hn cn t1
      exact ⟨(A, c, xs), e1, e2, e3, e4, e5⟩
    obtain ⟨q, hq⟩ := Go.Deep.choose_lt kid
    have hsy : ∀ k, k < len → sy ((List.range len).map fun i => (strV (V0 i), (q i).2.2)) k = strV (V0 k) := fun k hk => by simp [sy, List.getD, hk]
    have hch : ∀ k, k < len → ch ((List.range len).map fun i => (strV (V0 i), (q i).2.2)) k = (q k).2.2 := fun k hk => by simp [ch, List.getD, hk]
    refine ⟨(List.range len).map fun i => (strV (V0 i), (q i).2.2), by simp, hl, hm, ⟨fun k => ?_, fun hk => ?_⟩, fun k m hk hmm => ?_⟩
    · by_cases hk : k < len
      · rw [hsy k hk, hch k hk]
        have := (hq k hk).le
        have := (hq k hk).max
        exact ⟨(each k hk).2.2, by omega⟩
      · rw [sy_ge (by simp; omega), ch_ge (by simp; omega)]
        exact ⟨Nat.zero_le _, Nat.zero_le _⟩
    · have hk0 : 0 < len := by simpa using hk
      have g0 := (each 0 hk0).1
      simp [Addr.add] at g0
      have hsp := World.cell?_spot g0
      have hbl := World.block_lt_of_cell? _ _ g0
      obtain ⟨b, o, sp⟩ := ad
      simp only at hsp
      subst hsp
      refine ⟨b, o, rfl, hbl, fun k hk => ?_⟩
      have hk' : k < len := by simpa using hk
      obtain ⟨q0, q1, _⟩ := each k hk'
      rw [Addr.add_lit] at q0 q1
      rw [hsy k hk', hch k hk']
      have hK := hq k hk'
      exact ⟨q0, (q k).1, (q k).2.1, by rw [← hK.eq]; exact q1, hK.nums, hK.le, hK.max⟩
    · have hk' : k < len := by simpa using hk
      rw [hch k hk'] at hmm ⊢
      exact (hq k hk').rng m hmm
end
end Go.Proofs.Ytbdollafpjejiaa
