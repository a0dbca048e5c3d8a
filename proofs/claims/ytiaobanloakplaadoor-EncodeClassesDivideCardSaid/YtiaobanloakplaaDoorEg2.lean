/- Package encode: the rows of operatorsOf. -/
import Derived.Test.YtiaobanloakplaaDoorEu2
namespace Go.Proofs.YtiaobanloakplaaDoor
open Go.RowKit
set_option linter.unusedSimpArgs false
set_option linter.unusedVariables false
set_option maxRecDepth 100000

theorem info_mop : (Tryd.prog.info? 75).map (fun i => (i.zero, i.size, i.bytes)) = some (some (.agg #[.slice none 0 0, .slice none 0 0, .int .i64 0]), 3, 56) := by kernel_rfl
def MoP (xs : List Value) (ms : List MOp) (W : World) : Prop := ∀ k, k < ms.length → ∃ u0 u1, xs[k * 3]? = some u0 ∧ xs[k * 3 + 1]? = some u1 ∧ xs[k * 3 + 2]? = some (.int .i64 (mop ms k).cost) ∧ SlA (mop ms k).pre u0 W ∧ SlA (mop ms k).post u1 W
theorem mop_left {a : List MOp} {m : MOp} {k : Nat} (h : k < a.length) : mop (a ++ [m]) k = mop a k := by simp [mop, List.getD, List.getElem?_append, h]
theorem mop_last (a : List MOp) (m : MOp) : mop (a ++ [m]) a.length = m := by simp [mop, List.getD]
theorem moP_snoc {xs : List Value} {ms : List MOp} {m : MOp} {u0 u1 : Value} (hl : xs.length = ms.length * 3) {W : World} (h : MoP xs ms W ∧ SlA m.pre u0 W ∧ SlA m.post u1 W) : MoP (xs ++ [u0, u1, .int .i64 m.cost]) (ms ++ [m]) W := by
  intro k hk
  rw [List.length_append, List.length_singleton] at hk
  by_cases e : k < ms.length
  · obtain ⟨a, b, h1, h2, h3, h4⟩ := h.1 k e
    rw [mop_left e]
    exact ⟨a, b, by rw [List.getElem?_append_left (by omega)]; exact h1, by rw [List.getElem?_append_left (by omega)]; exact h2, by rw [List.getElem?_append_left (by omega)]; exact h3, h4⟩
  · obtain rfl : k = ms.length := by omega
    rw [mop_last]
    refine ⟨u0, u1, ?_, ?_, ?_, h.2⟩
    · rw [List.getElem?_append_right (by omega)]; simp [hl]
    · rw [List.getElem?_append_right (by omega)]; simp [hl]
    · rw [List.getElem?_append_right (by omega)]; simp [hl]
/-- The blocks from a to below b, without those of v and u. -/
def Rx2 (a b : Nat) (v u : Value) (k : Nat) : Prop := a ≤ k ∧ k < b ∧ v.ownBlock ≠ some k ∧ u.ownBlock ≠ some k
/-- A growing row of operators, and one of numbers. -/
structure G2 (W : World) (base : Nat) (v0 : Value) (xs : List Value) (ms : List MOp) (v1 : Value) (fr : List Int) : Prop where
  o0 : W.ownsRow base 75 3 v0 ms.length xs
  o1 : W.ownsRow base 3 1 v1 fr.length (fr.map (Value.int .i64))
  cont : On (Rx2 base W.heap.size v0 v1) W (MoP xs ms)
section
variable {W W2 : World} {base : Nat} {v0 v1 v2 : Value} {xs : List Value} {ms : List MOp} {fr fr2 : List Int}
theorem G2.nil (W : World) (base : Nat) : G2 W base (.slice none 0 0) [] [] (.slice none 0 0) [] := ⟨World.ownsRow_nil _ _ _ _, World.ownsRow_nil _ _ _ _, On.always fun W k h => by simp at h⟩
theorem G2.to (h : G2 W base v0 xs ms v1 fr) (hb : Below W.heap.size W W2) : G2 W2 base v0 xs ms v1 fr :=
  ⟨own_to h.o0 hb, own_to h.o1 hb, (h.cont.below hb (fun b q => q.2.1)).imp fun b q => ⟨q.1, Nat.lt_of_lt_of_le q.2.1 hb.size, q.2.2⟩⟩
/-- An operator more. -/
theorem G2.app0 {m : MOp} {u0 u1 : Value} (h : G2 W base v0 xs ms v1 fr) (hq : On (Rx2 base W.heap.size v0 v1) W (fun W => SlA m.pre u0 W ∧ SlA m.post u1 W))
    (ho : W2.ownsRow base 75 3 v2 (ms.length + 1) (xs ++ [u0, u1, .int .i64 m.cost])) (hg : W.grownBy W2 v0.ownBlock) (hat : v2.ownBlock = v0.ownBlock ∨ v2.ownBlock = some W.heap.size) : G2 W2 base v2 (xs ++ [u0, u1, .int .i64 m.cost]) (ms ++ [m]) v1 fr := by
  refine ⟨by rw [List.length_append]; exact ho, h.o1.kept hg (rows_ne (by decide) h.o0 h.o1), (((h.cont.and hq).grown hg (fun b q => ⟨q.2.1, q.2.2.1⟩)).map fun W3 q => moP_snoc h.o0.1 q).imp fun b q => ⟨q.1, Nat.lt_of_lt_of_le q.2.1 hg.size, fun e => ?_, q.2.2.2⟩⟩
  rcases hat with h1 | h1
  · exact q.2.2.1 (h1 ▸ e)
  · rw [h1] at e; injection e with e; have := q.2.1; omega
/-- A number more. -/
theorem G2.app1 (h : G2 W base v0 xs ms v1 fr) (ho : W2.ownsRow base 3 1 v2 fr2.length (fr2.map (Value.int .i64))) (hg : W.grownBy W2 v1.ownBlock) (hat : v2.ownBlock = v1.ownBlock ∨ v2.ownBlock = some W.heap.size) : G2 W2 base v0 xs ms v2 fr2 := by
  refine ⟨h.o0.kept hg (rows_ne (by decide) h.o1 h.o0), ho, (h.cont.grown hg (fun b q => ⟨q.2.1, q.2.2.2⟩)).imp fun b q => ⟨q.1, Nat.lt_of_lt_of_le q.2.1 hg.size, q.2.2.1, fun e => ?_⟩⟩
  rcases hat with h1 | h1
  · exact q.2.2.2 (h1 ▸ e)
  · rw [h1] at e; injection e with e; have := q.2.1; omega
end
/-- A slice of operators, to be read. -/
def SlM (ms : List MOp) (v : Value) (W : World) : Prop := ∃ a c, v = .slice a ms.length c ∧ MOpL W W.heap.size a c ms
theorem moP_slice {W : World} {base : Nat} {v : Value} {xs : List Value} {ms : List MOp} (ho : W.ownsRow base 75 3 v ms.length xs) (h : MoP xs ms W) : SlM ms v W := by
  rcases ho.2 with ⟨rfl, h0⟩ | ⟨g, cap, cur, rfl, hg, hh, hn, hcap, hcs, hx⟩
  · exact ⟨none, 0, by rw [h0], fun h => by omega, by omega, by simp [maxLen]⟩
  · refine ⟨_, cap, rfl, fun h0 => ⟨g, 0, rfl, (Array.getElem?_eq_some_iff.1 hh).1, fun k hk => ?_⟩, hn, hcap⟩
    obtain ⟨u0, u1, h1, h2, h3, ⟨a1, c1, rfl, l1⟩, a2, c2, rfl, l2⟩ := h k hk
    refine ⟨a1, a2, c1, c2, ⟨?_, ?_, ?_⟩, l1, l2⟩
    · have := ho.cells (g := g) rfl _ _ h1
      simpa [Addr.add_lit] using this
    · have := ho.cells (g := g) rfl _ _ h2
      simpa [Addr.add_lit, Nat.add_assoc] using this
    · have := ho.cells (g := g) rfl _ _ h3
      simpa [Addr.add_lit, Nat.add_assoc] using this
theorem own_zero {W W3 : World} {base e size n : Nat} {v : Value} {xs : List Value} (h : W.ownsRow base e size v n xs) (h2 : ∀ b, Rg base W.heap.size b → W3.heap[b]? = W.heap[b]?) : W3.ownsRow 0 e size v n xs := by
  rcases h with ⟨h1, hn | ⟨g, cap, cur, e1, hg, hh, h3⟩⟩
  · exact ⟨h1, .inl hn⟩
  · exact ⟨h1, .inr ⟨g, cap, cur, e1, Nat.zero_le _, (h2 g ⟨hg, (Array.getElem?_eq_some_iff.1 hh).1⟩).trans hh, h3⟩⟩
theorem G2.on {W : World} {base : Nat} {v0 v1 : Value} {xs : List Value} {ms : List MOp} {fr : List Int} (h : G2 W base v0 xs ms v1 fr) : On (Rg base W.heap.size) W (fun W => SlM ms v0 W ∧ SlL fr v1 W) := by
  intro W3 h2 hs
  exact ⟨moP_slice (own_zero h.o0 h2) (h.cont W3 (fun b q => h2 b ⟨q.1, q.2.1⟩) hs), slL_own (own_zero h.o1 h2)⟩
def OpsPost (w : World) (r : Option (List MOp × List Int)) (e : Ending) (w' : World) : Prop := Below w.heap.size w w' ∧ match r with
  | none => e = .returned (.tuple #[.slice none 0 0, .slice none 0 0, .bool false])
  | some (ms, fr) => ∃ v0 v1, e = .returned (.tuple #[v0, v1, .bool true]) ∧ On (Rg w.heap.size w'.heap.size) w' (fun W => SlM ms v0 W ∧ SlL fr v1 W)
theorem opsPost_none {w w' : World} {r : Option (List MOp × List Int)} (h : r = none) (hb : Below w.heap.size w w') : OpsPost w r (.returned (.tuple #[.slice none 0 0, .slice none 0 0, .bool false])) w' := by subst h; exact ⟨hb, rfl⟩
theorem opsPost_some {w w' : World} {r : Option (List MOp × List Int)} {ms : List MOp} {fr : List Int} {v0 v1 : Value} (h : r = some (ms, fr)) (hb : Below w.heap.size w w') (ho : On (Rg w.heap.size w'.heap.size) w' (fun W => SlM ms v0 W ∧ SlL fr v1 W)) :
    OpsPost w r (.returned (.tuple #[v0, v1, .bool true])) w' := by subst h; exact ⟨hb, v0, v1, rfl, ho⟩
theorem cell_three_new (w : World) (x y z : Value) (t : TypeId) : ∀ j u, [x, y, z][j]? = some u → (w.alloc (.cells #[x, y, z] t)).cell? ((⟨w.heap.size, 0, none⟩ : Addr).add j) = some u := by
  intro j u hj
  match j, hj with
  | 0, hj => simp at hj; subst hj; simp [Addr.add]
  | 1, hj => simp at hj; subst hj; simp [Addr.add]
  | 2, hj => simp at hj; subst hj; simp [Addr.add]
end Go.Proofs.YtiaobanloakplaaDoor
