/- Package encode: under. -/
import Derived.Test.YtiaobanloakplaaDoorEcc
import Derived.Test.YtiaobanloakplaaDoorMzf
import Derived.Deep.AppendLies
import Derived.Deep.CutRange
namespace Go.Proofs.YtiaobanloakplaaDoor
open Go.RowKit
set_option linter.unusedSimpArgs false
set_option linter.unusedVariables false
set_option maxRecDepth 100000

/-- The box of the result, the box of the operator that is made (u0, u1 stand in its cells), and the rows of v0 and v1. -/
structure UL (w W : World) (u0 u1 v0 v1 : Value) (p q : List Asg) (c : Int) : Prop where
  below : Below w.heap.size w W
  lt : w.heap.size + 1 < W.heap.size
  r0 : W.cell? ⟨w.heap.size, 0, none⟩ = some (.slice none 0 0)
  r1 : W.cell? ⟨w.heap.size, 1, none⟩ = some (.slice none 0 0)
  r2 : W.cell? ⟨w.heap.size, 2, none⟩ = some (.int .i64 0)
  g0 : W.frozen? ⟨w.heap.size, 0, none⟩ = false
  g1 : W.frozen? ⟨w.heap.size, 1, none⟩ = false
  g2 : W.frozen? ⟨w.heap.size, 2, none⟩ = false
  c0 : W.cell? ⟨w.heap.size + 1, 0, none⟩ = some u0
  c1 : W.cell? ⟨w.heap.size + 1, 1, none⟩ = some u1
  c2 : W.cell? ⟨w.heap.size + 1, 2, none⟩ = some (.int .i64 c)
  f0 : W.frozen? ⟨w.heap.size + 1, 0, none⟩ = false
  f1 : W.frozen? ⟨w.heap.size + 1, 1, none⟩ = false
  o0 : W.ownsRow (w.heap.size + 2) 73 2 v0 p.length (asgC p)
  o1 : W.ownsRow (w.heap.size + 2) 73 2 v1 q.length (asgC q)
  ne : v0.ownBlock = none ∨ v0.ownBlock ≠ v1.ownBlock
section
variable {w W W2 : World} {u0 u1 v0 v1 v2 : Value} {p q p2 : List Asg} {c : Int}
theorem UL.to (h : UL w W u0 u1 v0 v1 p q c) (hb : Below W.heap.size W W2) : UL w W2 u0 u1 v0 v1 p q c := by
  have hl := h.lt
  have fz : ∀ {b o : Nat}, b < W.heap.size → W.frozen? ⟨b, o, none⟩ = false → W2.frozen? ⟨b, o, none⟩ = false := fun h1 h2 => (hb.frozen (p := ⟨_, _, none⟩) h1).trans h2
  have hs := h.below.size
  exact ⟨h.below.trans (hb.mono hs), Nat.lt_of_lt_of_le hl hb.size, cell_to h.r0 hb, cell_to h.r1 hb, cell_to h.r2 hb, fz (by omega) h.g0, fz (by omega) h.g1, fz (by omega) h.g2, cell_to h.c0 hb, cell_to h.c1 hb, cell_to h.c2 hb, fz hl h.f0, fz hl h.f1, own_to h.o0 hb, own_to h.o1 hb, h.ne⟩
theorem UL.app0 (h : UL w W u0 u1 v0 v1 p q c) (hg : W.grownBy W2 v0.ownBlock) (hat : v0.ownBlock = v2.ownBlock ∨ v2.ownBlock = some W.heap.size) (ho : W2.ownsRow (w.heap.size + 2) 73 2 v2 p2.length (asgC p2)) : UL w W2 u0 u1 v2 v1 p2 q c := by
  have hl := h.lt
  have hs := h.below.size
  have hn : ∀ b, b < w.heap.size + 2 → some b ≠ v0.ownBlock := fun b hb e => by have := (h.o0.lt b e.symm).1; omega
  have fz : ∀ {b o : Nat}, b < w.heap.size + 2 → W.frozen? ⟨b, o, none⟩ = false → W2.frozen? ⟨b, o, none⟩ = false := fun {b o} h1 h2 => (hg.frozen_far ⟨b, o, none⟩ (show b < _ by omega) (hn b h1)).trans h2
  have cl : ∀ {b o : Nat} {v : Value}, b < w.heap.size + 2 → W.cell? ⟨b, o, none⟩ = some v → W2.cell? ⟨b, o, none⟩ = some v := fun {b o v} h1 h2 => hg.cell h2 (hn b h1)
  refine ⟨h.below.grown hg hs (fun k hk => by have := (h.o0.lt k hk).1; omega), Nat.lt_of_lt_of_le hl hg.size, cl (by omega) h.r0, cl (by omega) h.r1, cl (by omega) h.r2, fz (by omega) h.g0, fz (by omega) h.g1, fz (by omega) h.g2, cl (by omega) h.c0, cl (by omega) h.c1, cl (by omega) h.c2, fz (by omega) h.f0, fz (by omega) h.f1, ho, h.o1.kept hg ?_, ?_⟩
  · rcases h.ne with e | e
    · cases hv : v1.ownBlock with
      | none => exact .inl rfl
      | some b => exact .inr (by rw [e]; simp)
    · exact .inr (Ne.symm e)
  · rcases hat with e | e
    · rw [← e]; exact h.ne
    · right
      rw [e]
      intro e2
      have := (h.o1.lt _ e2.symm).2
      omega
theorem UL.app1 (h : UL w W u0 u1 v0 v1 p q c) (hg : W.grownBy W2 v1.ownBlock) (hat : v1.ownBlock = v2.ownBlock ∨ v2.ownBlock = some W.heap.size) (ho : W2.ownsRow (w.heap.size + 2) 73 2 v2 p2.length (asgC p2)) : UL w W2 u0 u1 v0 v2 p p2 c := by
  have hl := h.lt
  have hs := h.below.size
  have hn : ∀ b, b < w.heap.size + 2 → some b ≠ v1.ownBlock := fun b hb e => by have := (h.o1.lt b e.symm).1; omega
  have fz : ∀ {b o : Nat}, b < w.heap.size + 2 → W.frozen? ⟨b, o, none⟩ = false → W2.frozen? ⟨b, o, none⟩ = false := fun {b o} h1 h2 => (hg.frozen_far ⟨b, o, none⟩ (show b < _ by omega) (hn b h1)).trans h2
  have cl : ∀ {b o : Nat} {v : Value}, b < w.heap.size + 2 → W.cell? ⟨b, o, none⟩ = some v → W2.cell? ⟨b, o, none⟩ = some v := fun {b o v} h1 h2 => hg.cell h2 (hn b h1)
  refine ⟨h.below.grown hg hs (fun k hk => by have := (h.o1.lt k hk).1; omega), Nat.lt_of_lt_of_le hl hg.size, cl (by omega) h.r0, cl (by omega) h.r1, cl (by omega) h.r2, fz (by omega) h.g0, fz (by omega) h.g1, fz (by omega) h.g2, cl (by omega) h.c0, cl (by omega) h.c1, cl (by omega) h.c2, fz (by omega) h.f0, fz (by omega) h.f1, h.o0.kept hg h.ne, ho, ?_⟩
  rcases h.ne with e | e
  · exact .inl e
  · rcases hat with e2 | e2
    · right; rw [← e2]; exact e
    · right
      rw [e2]
      intro e3
      have := (h.o0.lt _ e3).2
      omega
theorem UL.put0 (h : UL w W u0 u1 v0 v1 p q c) : UL w (W.setCell ⟨w.heap.size + 1, 0, none⟩ v0) v0 u1 v0 v1 p q c := by
  have cf : ∀ {b o : Nat} {v : Value}, (⟨b, o, none⟩ : Addr) ≠ ⟨w.heap.size + 1, 0, none⟩ → W.cell? ⟨b, o, none⟩ = some v → (W.setCell ⟨w.heap.size + 1, 0, none⟩ v0).cell? ⟨b, o, none⟩ = some v := fun h1 h2 => by
    rw [World.cell?_setCell_other _ _ _ _ (by first | exact h1 | exact Ne.symm h1)]; exact h2
  have fz : ∀ {p : Addr}, W.frozen? p = false → (W.setCell ⟨w.heap.size + 1, 0, none⟩ v0).frozen? p = false := fun h1 => by rw [World.frozen?_setCell]; exact h1
  exact ⟨h.below.setCell (by simp) _, by simpa [World.setCell] using h.lt, cf (by simp) h.r0, cf (by simp) h.r1, cf (by simp) h.r2, fz h.g0, fz h.g1, fz h.g2, World.cell?_setCell_same' _ _ _ (by rw [h.c0]; rfl), cf (by simp) h.c1, cf (by simp) h.c2, fz h.f0, fz h.f1, own_far3 h.o0 (by simp) _, own_far3 h.o1 (by simp) _, h.ne⟩
theorem UL.put1 (h : UL w W u0 u1 v0 v1 p q c) : UL w (W.setCell ⟨w.heap.size + 1, 1, none⟩ v1) u0 v1 v0 v1 p q c := by
  have cf : ∀ {b o : Nat} {v : Value}, (⟨b, o, none⟩ : Addr) ≠ ⟨w.heap.size + 1, 1, none⟩ → W.cell? ⟨b, o, none⟩ = some v → (W.setCell ⟨w.heap.size + 1, 1, none⟩ v1).cell? ⟨b, o, none⟩ = some v := fun h1 h2 => by
    rw [World.cell?_setCell_other _ _ _ _ (by first | exact h1 | exact Ne.symm h1)]; exact h2
  have fz : ∀ {p : Addr}, W.frozen? p = false → (W.setCell ⟨w.heap.size + 1, 1, none⟩ v1).frozen? p = false := fun h1 => by rw [World.frozen?_setCell]; exact h1
  exact ⟨h.below.setCell (by simp) _, by simpa [World.setCell] using h.lt, cf (by simp) h.r0, cf (by simp) h.r1, cf (by simp) h.r2, fz h.g0, fz h.g1, fz h.g2, cf (by simp) h.c0, World.cell?_setCell_same' _ _ _ (by rw [h.c1]; rfl), cf (by simp) h.c2, fz h.f0, fz h.f1, own_far3 h.o0 (by simp) _, own_far3 h.o1 (by simp) _, h.ne⟩
end
/-- A slice of assignments, to be read. -/
def SlA (l : List Asg) (v : Value) (W : World) : Prop := ∃ a c, v = .slice a l.length c ∧ AsgL W W.heap.size a c l
theorem slA_on {W : World} {base : Nat} {v : Value} {l : List Asg} (h : W.ownsRow base 73 2 v l.length (asgC l)) : On (Rg base W.heap.size) W (SlA l v) := by
  have h1 : GRow W base 73 2 v l.length (asgC l) (fun _ => True) := ⟨h, On.always fun _ => trivial⟩
  exact h1.on.map fun W2 h2 => by obtain ⟨a, c, e, hl, _⟩ := own_asgL h2.1; exact ⟨a, c, e, hl⟩
def UnPost (w : World) (m : MOp) (e : Ending) (w' : World) : Prop := ∃ v0 v1, e = .returned (.agg #[v0, v1, .int .i64 m.cost]) ∧ Below w.heap.size w w' ∧ On (Rg w.heap.size w'.heap.size) w' (fun W => SlA m.pre v0 W ∧ SlA m.post v1 W)
def prN (rs : List Rol) (b : List Int) (n : Nat) : List Asg := (undN rs b 0 n).pre
def poN (rs : List Rol) (b : List Int) (n : Nat) : List Asg := (undN rs b 0 n).post
theorem und_pp (rs : List Rol) (b : List Int) (c : Int) : ∀ n, (undN rs b c n).pre = prN rs b n ∧ (undN rs b c n).post = poN rs b n ∧ (undN rs b c n).cost = c
  | 0 => ⟨rfl, rfl, rfl⟩
  | n + 1 => by
    obtain ⟨h1, h2, _⟩ := und_pp rs b c n
    refine ⟨?_, ?_, rfl⟩
    · show (undN rs b c n).pre ++ _ = (undN rs b 0 n).pre ++ _; rw [h1]; rfl
    · show (undN rs b c n).post ++ _ = (undN rs b 0 n).post ++ _; rw [h2]; rfl
theorem prN_no {rs : List Rol} {b : List Int} {n : Nat} (h : ix b n = -1) : prN rs b (n + 1) = prN rs b n := by unfold prN; simp [undN, h]
theorem prN_yes {rs : List Rol} {b : List Int} {n : Nat} (h : ¬ ix b n = -1) : prN rs b (n + 1) = prN rs b n ++ [⟨(n : Int), ix b n⟩] := by unfold prN; simp [undN, h]
theorem poN_no {rs : List Rol} {b : List Int} {n : Nat} (h : aftR (rol rs n) (ix b n) = ix b n) : poN rs b (n + 1) = poN rs b n := by unfold poN; simp [undN, h]
theorem poN_yes {rs : List Rol} {b : List Int} {n : Nat} (h : ¬ aftR (rol rs n) (ix b n) = ix b n) : poN rs b (n + 1) = poN rs b n ++ [⟨(n : Int), aftR (rol rs n) (ix b n)⟩] := by unfold poN; simp [undN, h]
theorem prN_le (rs : List Rol) (b : List Int) (n : Nat) : (prN rs b n).length ≤ n := (undN_len rs b 0 n).1
theorem poN_le (rs : List Rol) (b : List Int) (n : Nat) : (poN rs b n).length ≤ n := (undN_len rs b 0 n).2.1
end Go.Proofs.YtiaobanloakplaaDoor
