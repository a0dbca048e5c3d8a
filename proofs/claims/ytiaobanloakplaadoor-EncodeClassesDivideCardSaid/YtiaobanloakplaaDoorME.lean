/- Mzg, Mzs, Mzt, Mzw in one text. -/
import Derived.Test.YtiaobanloakplaaDoorMD
import Derived.Test.YtiaobanloakplaaDoorMC
import Derived.Lib.SmallJoins

/- Strips: given (Strips$1). -/
section
namespace Go.Proofs.YtiaobanloakplaaDoor
open Go.RowKit
set_option linter.unusedSimpArgs false
set_option linter.unusedVariables false
set_option maxRecDepth 100000

/-- The box of the first facts. -/
structure FBx (W : World) (bf : Nat) (S : List Int) (a : Option Addr) (c : Nat) : Prop where
  lt : bf < W.heap.size
  cell : W.cell? ⟨bf, 0, none⟩ = some (.slice a S.length c)
  lst : Lst W W.heap.size a c (fsL S)
theorem FBx.to {W W' : World} {bf : Nat} {S : List Int} {a : Option Addr} {c : Nat} (h : FBx W bf S a c) (hb : Below W.heap.size W W') : FBx W' bf S a c :=
  ⟨Nat.lt_of_lt_of_le h.lt hb.size, (hb.cell (p := ⟨bf, 0, none⟩) h.lt).trans h.cell, h.lst.to hb hb.size⟩
theorem FBx.at_ {W : World} {bf : Nat} {S : List Int} {a : Option Addr} {c : Nat} (h : FBx W bf S a c) {k : Nat} (hk : k < S.length) : ∃ b o, a = some ⟨b, o, none⟩ ∧ b < W.heap.size ∧ W.cell? ⟨b, o + k, none⟩ = some (.int .i64 (smN S k)) := by
  obtain ⟨b, o, e, hb, hc⟩ := h.lst.nums.at_ (k := k) (by rw [fsL_len]; exact hk)
  rw [ix_fs hk] at hc
  exact ⟨b, o, e, hb, hc⟩
/-- The box of an assignment, apart from a row. -/
structure AgB (W : World) (q : Nat) (a : Asg) (r : Option Nat) : Prop where
  lt : q < W.heap.size
  cell : AsgC W q 0 a
  ne : r ≠ some q
theorem AgB.to {W W' : World} {q : Nat} {a : Asg} {r : Option Nat} (h : AgB W q a r) (hb : Below W.heap.size W W') : AgB W' q a r := ⟨Nat.lt_of_lt_of_le h.lt hb.size, h.cell.to hb h.lt, h.ne⟩
theorem AgB.grown {W W' : World} {q : Nat} {a : Asg} {r r' : Option Nat} (h : AgB W q a r) (hg : W.grownBy W' r) (hr : r' = r ∨ r' = some W.heap.size) : AgB W' q a r' := by
  have hn : some q ≠ r := fun e => h.ne e.symm
  refine ⟨Nat.lt_of_lt_of_le h.lt hg.size, ⟨hg.cell h.cell.c0 hn, hg.cell h.cell.c1 hn⟩, ?_⟩
  rcases hr with rfl | rfl
  · exact h.ne
  · intro e
    injection e with e
    have := h.lt
    omega
end Go.Proofs.YtiaobanloakplaaDoor
end

/- Strips: what its loops keep. -/
section
namespace Go.Proofs.YtiaobanloakplaaDoor
open Go.RowKit
set_option linter.unusedSimpArgs false
set_option linter.unusedVariables false
set_option maxRecDepth 100000

/-- A list that lies neither in row r nor in block bt. -/
structure ApB (W : World) (r : Option Nat) (bt : Nat) (a : Option Addr) (c : Nat) (s : List Int) : Prop where
  ap : Apart W r a c s
  ne : 0 < s.length → ∀ b o, a = some ⟨b, o, none⟩ → bt < b
theorem ApB.to {W W' : World} {r : Option Nat} {bt : Nat} {a : Option Addr} {c : Nat} {s : List Int} (h : ApB W r bt a c s) (hb : Below W.heap.size W W') : ApB W' r bt a c s := ⟨h.ap.to hb, h.ne⟩
theorem ApB.grown {W W' : World} {r r' : Option Nat} {bt : Nat} {a : Option Addr} {c : Nat} {s : List Int} (h : ApB W r bt a c s) (hg : W.grownBy W' r) (hr : r' = r ∨ r' = some W.heap.size) : ApB W' r' bt a c s := ⟨h.ap.grown hg hr, h.ne⟩
theorem ApB.setp {W : World} {r : Option Nat} {bt : Nat} {a : Option Addr} {c : Nat} {s : List Int} (h : ApB W r bt a c s) {p : Addr} (hp : p.block ≤ bt) (u : Value) : ApB (W.setCell p u) r bt a c s := by
  have h1 : Apart W (some p.block) a c s := ⟨h.ap.lst, fun h0 b o e e2 => by have h9 := h.ne h0 b o e; injection e2 with e2; omega⟩
  have h2 := h1.grown (set_grown W p u) (.inl rfl)
  exact ⟨⟨h2.lst, h.ap.ne⟩, h.ne⟩
theorem ApB.set {W : World} {r : Option Nat} {bt m : Nat} {a : Option Addr} {c : Nat} {s : List Int} (h : ApB W r bt a c s) (u : Value) : ApB (W.setCell ⟨bt, m, none⟩ u) r bt a c s := h.setp (Nat.le_refl bt) u
theorem apB_own {W : World} {base bt : Nat} {v : Value} {s : List Int} (h : W.ownsRow base 3 1 v s.length (s.map (Value.int .i64))) {r : Option Nat} (hr : ∀ q, r = some q → q < base) (hb : bt < base) : ∃ a c, v = .slice a s.length c ∧ ApB W r bt a c s := by
  obtain ⟨a, c, e, ha⟩ := apart_own h hr
  refine ⟨a, c, e, ha, fun h0 b o ea => ?_⟩
  subst e ea
  have := (h.lt b rfl).1
  omega
/-- The four values of an operator in a row. -/
structure OVals (vs : List Value) (p : Nat) (o : Opr) (a1 a2 a3 : Option Addr) (c1 c2 c3 : Nat) : Prop where
  v0 : vs[p]? = some (.slice a1 o.pre.length c1)
  v1 : vs[p + 1]? = some (.slice a2 o.add.length c2)
  v2 : vs[p + 2]? = some (.slice a3 o.del.length c3)
  v3 : vs[p + 3]? = some (.int .i64 o.cost)
/-- A growing row of operators. -/
structure OpsR (W : World) (base bt : Nat) (v : Value) (os : List Opr) : Prop where
  ex : ∃ vs : List Value, W.ownsRow base 79 4 v os.length vs ∧ vs.length = os.length * 4 ∧ ∀ j, j < os.length → ∃ a1 a2 a3 c1 c2 c3, OVals vs (j * 4) (opr os j) a1 a2 a3 c1 c2 c3 ∧ ApB W v.ownBlock bt a1 c1 (opr os j).pre ∧ ApB W v.ownBlock bt a2 c2 (opr os j).add ∧ ApB W v.ownBlock bt a3 c3 (opr os j).del
theorem opsR_nil (W : World) (base bt : Nat) : OpsR W base bt (.slice none 0 0) [] := ⟨[], World.ownsRow_nil _ _ _ _, rfl, fun j hj => by simp at hj⟩
theorem OpsR.to {W W' : World} {base bt : Nat} {v : Value} {os : List Opr} (h : OpsR W base bt v os) (hb : Below W.heap.size W W') : OpsR W' base bt v os := by
  obtain ⟨vs, ho, hl, hj⟩ := h.ex
  refine ⟨vs, own_to ho hb, hl, fun j hlt => ?_⟩
  obtain ⟨a1, a2, a3, c1, c2, c3, h1, h2, h3, h4⟩ := hj j hlt
  exact ⟨a1, a2, a3, c1, c2, c3, h1, h2.to hb, h3.to hb, h4.to hb⟩
theorem own_far3 {W : World} {base : Nat} {e : TypeId} {size : Nat} {v : Value} {n : Nat} {xs : List Value} (h : W.ownsRow base e size v n xs) {p : Addr} (hp : p.block < base) (u : Value) : (W.setCell p u).ownsRow base e size v n xs := by
  refine h.kept (set_grown W p u) ?_
  cases hv : v.ownBlock with
  | none => exact .inl rfl
  | some q => exact .inr (fun e => by have := (h.lt q hv).1; cases e; omega)
theorem OpsR.setp {W : World} {base bt : Nat} {v : Value} {os : List Opr} (h : OpsR W base bt v os) (hb : bt < base) {p : Addr} (hp : p.block ≤ bt) (u : Value) : OpsR (W.setCell p u) base bt v os := by
  obtain ⟨vs, ho, hl, hj⟩ := h.ex
  refine ⟨vs, own_far3 ho (by omega) u, hl, fun j hlt => ?_⟩
  obtain ⟨a1, a2, a3, c1, c2, c3, h1, h2, h3, h4⟩ := hj j hlt
  exact ⟨a1, a2, a3, c1, c2, c3, h1, h2.setp hp u, h3.setp hp u, h4.setp hp u⟩
theorem OpsR.set {W : World} {base bt m : Nat} {v : Value} {os : List Opr} (h : OpsR W base bt v os) (hb : bt < base) (u : Value) : OpsR (W.setCell ⟨bt, m, none⟩ u) base bt v os := h.setp hb (Nat.le_refl bt) u
theorem OpsR.own_lt {W : World} {base bt : Nat} {v : Value} {os : List Opr} (h : OpsR W base bt v os) : ∀ q, v.ownBlock = some q → base ≤ q ∧ q < W.heap.size := by
  obtain ⟨vs, ho, _, _⟩ := h.ex
  exact fun q hq => ho.lt q hq
theorem opr_left {os : List Opr} {o : Opr} {j : Nat} (h : j < os.length) : opr (os ++ [o]) j = opr os j := by unfold opr; simp only [List.getD_eq_getElem?_getD]; rw [List.getElem?_append_left h]
theorem opr_last (os : List Opr) (o : Opr) : opr (os ++ [o]) os.length = o := by unfold opr; simp [List.getD]
/-- The row with one operator more. -/
theorem opsR_app {W W' : World} {base bt : Nat} {v v' : Value} {os : List Opr} {vs : List Value} {o : Opr} {a1 a2 a3 : Option Addr} {c1 c2 c3 : Nat}
    (hl : vs.length = os.length * 4)
    (hj : ∀ j, j < os.length → ∃ a1 a2 a3 c1 c2 c3, OVals vs (j * 4) (opr os j) a1 a2 a3 c1 c2 c3 ∧ ApB W v.ownBlock bt a1 c1 (opr os j).pre ∧ ApB W v.ownBlock bt a2 c2 (opr os j).add ∧ ApB W v.ownBlock bt a3 c3 (opr os j).del)
    (hown : W'.ownsRow base 79 4 v' (os.length + 1) (vs ++ [.slice a1 o.pre.length c1, .slice a2 o.add.length c2, .slice a3 o.del.length c3, .int .i64 o.cost]))
    (hg : W.grownBy W' v.ownBlock) (hr : v'.ownBlock = v.ownBlock ∨ v'.ownBlock = some W.heap.size)
    (h1 : ApB W v.ownBlock bt a1 c1 o.pre) (h2 : ApB W v.ownBlock bt a2 c2 o.add) (h3 : ApB W v.ownBlock bt a3 c3 o.del) : OpsR W' base bt v' (os ++ [o]) := by
  refine ⟨_, by rw [List.length_append]; exact hown, by simp [hl]; omega, fun j hlt => ?_⟩
  rw [List.length_append, List.length_singleton] at hlt
  by_cases e : j = os.length
  · subst e
    rw [opr_last]
    refine ⟨a1, a2, a3, c1, c2, c3, ⟨?_, ?_, ?_, ?_⟩, h1.grown hg hr, h2.grown hg hr, h3.grown hg hr⟩
    · rw [List.getElem?_append_right (by omega)]; simp [hl]
    · rw [List.getElem?_append_right (by omega)]; simp [hl]
    · rw [List.getElem?_append_right (by omega)]; simp [hl]
    · rw [List.getElem?_append_right (by omega)]; simp [hl]
  · have hlt2 : j < os.length := by omega
    rw [opr_left hlt2]
    obtain ⟨b1, b2, b3, d1, d2, d3, q1, q2, q3, q4⟩ := hj j hlt2
    refine ⟨b1, b2, b3, d1, d2, d3, ⟨?_, ?_, ?_, ?_⟩, q2.grown hg hr, q3.grown hg hr, q4.grown hg hr⟩
    · rw [List.getElem?_append_left (by omega)]; exact q1.v0
    · rw [List.getElem?_append_left (by omega)]; exact q1.v1
    · rw [List.getElem?_append_left (by omega)]; exact q1.v2
    · rw [List.getElem?_append_left (by omega)]; exact q1.v3
theorem opsR_oprs {W : World} {base bt : Nat} {v : Value} {os : List Opr} (h : OpsR W base bt v os) : ∃ a c, v = .slice a os.length c ∧ Oprs W W.heap.size a os ∧ os.length ≤ c ∧ c ≤ maxLen := by
  obtain ⟨vs, ho, hl, hj⟩ := h.ex
  have ho2 := ho
  rcases ho.2 with ⟨e, hn⟩ | ⟨g, cap, cur, rfl, hb, hh, hc, hm, _⟩
  · exact ⟨none, 0, by rw [e, hn], fun h => by omega, by omega, by simp [maxLen]⟩
  · refine ⟨some ⟨g, 0, none⟩, cap, rfl, fun h0 => ⟨g, 0, rfl, (Array.getElem?_eq_some_iff.1 hh).1, fun k hk => ?_⟩, hc, hm⟩
    obtain ⟨a1, a2, a3, c1, c2, c3, q, h1, h2, h3⟩ := hj k hk
    refine ⟨a1, a2, a3, c1, c2, c3, ⟨?_, ?_, ?_, ?_⟩, h1.ap.lst, h2.ap.lst, h3.ap.lst⟩
    · rw [Nat.zero_add, ho2.cellAt _ (by omega)]; exact q.v0
    · rw [Nat.zero_add, ho2.cellAt _ (by omega)]; exact q.v1
    · rw [Nat.zero_add, ho2.cellAt _ (by omega)]; exact q.v2
    · rw [Nat.zero_add, ho2.cellAt _ (by omega)]; exact q.v3

/-- What stands in a cell. -/
def dV (W : World) (p : Addr) : Value := (W.cell? p).getD undef
theorem dV_of {W : World} {p : Addr} {u : Value} (h : W.cell? p = some u) : W.cell? p = some (dV W p) := by unfold dV; rw [h]; rfl
theorem dV_eq {W : World} {p : Addr} {u : Value} (h : W.cell? p = some u) : dV W p = u := by unfold dV; rw [h]; rfl
/-- The first loop's box: u stands in the second cell, the row of v is the list. -/
structure LpI (w3 : World) (bt : Nat) (n : Int) (g : Value) (u v : Value) (l : List Int) (W : World) : Prop where
  below : Below bt w3 W
  lt : bt < W.heap.size
  c0 : W.cell? ⟨bt, 0, none⟩ = some (.int .i64 n)
  c1 : W.cell? ⟨bt, 1, none⟩ = some u
  c2 : W.cell? ⟨bt, 2, none⟩ = some g
  c3 : W.cell? ⟨bt, 3, none⟩ = some (.slice none 0 0)
  f1 : W.frozen? ⟨bt, 1, none⟩ = false
  f3 : W.frozen? ⟨bt, 3, none⟩ = false
  row : W.ownsRow (bt + 1) 3 1 v l.length (l.map (Value.int .i64))
section
variable {w3 W W' : World} {bt : Nat} {n : Int} {g u v v' : Value} {l : List Int}
theorem frozen_past {W W' : World} {b m : Nat} (h : W.frozen? ⟨b, m, none⟩ = false) (hb : Below W.heap.size W W') (hl : b < W.heap.size) : W'.frozen? ⟨b, m, none⟩ = false := (hb.frozen (p := ⟨b, m, none⟩) hl).trans h
theorem LpI.to (h : LpI w3 bt n g u v l W) (hb : Below W.heap.size W W') (h3 : w3.heap.size ≤ bt) : LpI w3 bt n g u v l W' := by
  have hs := h.lt
  exact ⟨h.below.trans (hb.mono (by omega)), Nat.lt_of_lt_of_le h.lt hb.size, (hb.cell (p := ⟨bt, 0, none⟩) h.lt).trans h.c0, (hb.cell (p := ⟨bt, 1, none⟩) h.lt).trans h.c1, (hb.cell (p := ⟨bt, 2, none⟩) h.lt).trans h.c2, (hb.cell (p := ⟨bt, 3, none⟩) h.lt).trans h.c3, frozen_past h.f1 hb h.lt, frozen_past h.f3 hb h.lt, own_to h.row hb⟩
theorem LpI.app (h : LpI w3 bt n g u v l W) (hg : W.grownBy W' v.ownBlock) (h3 : w3.heap.size ≤ bt) {z : Int} (ho : W'.ownsRow (bt + 1) 3 1 v' (l.length + 1) (l.map (Value.int .i64) ++ [.int .i64 z])) : LpI w3 bt n g u v' (l ++ [z]) W' := by
  have hn : some bt ≠ v.ownBlock := fun e => by have := (h.row.lt bt e.symm).1; omega
  have hs := h.lt
  exact ⟨h.below.grown hg (by omega) (fun q hq => by have := (h.row.lt q hq).1; omega), Nat.lt_of_lt_of_le h.lt hg.size, hg.cell h.c0 hn, hg.cell h.c1 hn, hg.cell h.c2 hn, hg.cell h.c3 hn, (hg.frozen_far ⟨bt, 1, none⟩ hs hn).trans h.f1, (hg.frozen_far ⟨bt, 3, none⟩ hs hn).trans h.f3, by simpa using ho⟩
theorem LpI.put (h : LpI w3 bt n g u v l W) (h3 : w3.heap.size ≤ bt) : LpI w3 bt n g v v l (W.setCell ⟨bt, 1, none⟩ v) := by
  have hs := h.lt
  refine ⟨h.below.setCell (by exact Nat.le_refl bt) _, by simpa using h.lt, ?_, ?_, ?_, ?_, by rw [World.frozen?_setCell]; exact h.f1, by rw [World.frozen?_setCell]; exact h.f3, own_far3 h.row (by exact Nat.lt_succ_self bt) _⟩
  · rw [World.cell?_setCell_other _ _ _ _ (by simp)]; exact h.c0
  · exact World.cell?_setCell_same' _ _ _ (by rw [h.c1]; rfl)
  · rw [World.cell?_setCell_other _ _ _ _ (by simp)]; exact h.c2
  · rw [World.cell?_setCell_other _ _ _ _ (by simp)]; exact h.c3
end
/-- The second loop's box: u stands in the last cell, the row of v holds the operators. -/
structure LpO (w3 : World) (bt : Nat) (n : Int) (gv : Value) (ai : Option Addr) (ci : Nat) (init : List Int) (u v : Value) (os : List Opr) (W : World) : Prop where
  below : Below bt w3 W
  lt : bt < W.heap.size
  c0 : W.cell? ⟨bt, 0, none⟩ = some (.int .i64 n)
  c1 : W.cell? ⟨bt, 1, none⟩ = some (.slice ai init.length ci)
  c2 : W.cell? ⟨bt, 2, none⟩ = some gv
  c3 : W.cell? ⟨bt, 3, none⟩ = some u
  f3 : W.frozen? ⟨bt, 3, none⟩ = false
  init : ApB W v.ownBlock bt ai ci init
  row : OpsR W (bt + 1) bt v os
section
variable {w3 W W' : World} {bt ci : Nat} {n : Int} {gv u v v' : Value} {ai : Option Addr} {init : List Int} {os os' : List Opr}
theorem LpO.to (h : LpO w3 bt n gv ai ci init u v os W) (hb : Below W.heap.size W W') (h3 : w3.heap.size ≤ bt) : LpO w3 bt n gv ai ci init u v os W' := by
  have hs := h.lt
  exact ⟨h.below.trans (hb.mono (by omega)), Nat.lt_of_lt_of_le h.lt hb.size, (hb.cell (p := ⟨bt, 0, none⟩) h.lt).trans h.c0, (hb.cell (p := ⟨bt, 1, none⟩) h.lt).trans h.c1, (hb.cell (p := ⟨bt, 2, none⟩) h.lt).trans h.c2, (hb.cell (p := ⟨bt, 3, none⟩) h.lt).trans h.c3, frozen_past h.f3 hb h.lt, h.init.to hb, h.row.to hb⟩
theorem LpO.app (h : LpO w3 bt n gv ai ci init u v os W) (hv : ∀ q, v.ownBlock = some q → bt < q) (hg : W.grownBy W' v.ownBlock) (hr : v'.ownBlock = v.ownBlock ∨ v'.ownBlock = some W.heap.size) (h3 : w3.heap.size ≤ bt) (ho : OpsR W' (bt + 1) bt v' os') : LpO w3 bt n gv ai ci init u v' os' W' := by
  have hn : some bt ≠ v.ownBlock := fun e => by have := hv bt e.symm; omega
  have hs := h.lt
  exact ⟨h.below.grown hg (by omega) (fun q hq => by have := hv q hq; omega), Nat.lt_of_lt_of_le h.lt hg.size, hg.cell h.c0 hn, hg.cell h.c1 hn, hg.cell h.c2 hn, hg.cell h.c3 hn, (hg.frozen_far ⟨bt, 3, none⟩ hs hn).trans h.f3, h.init.grown hg hr, ho⟩
theorem LpO.put (h : LpO w3 bt n gv ai ci init u v os W) (h3 : w3.heap.size ≤ bt) : LpO w3 bt n gv ai ci init v v os (W.setCell ⟨bt, 3, none⟩ v) := by
  have hs := h.lt
  refine ⟨h.below.setCell (by exact Nat.le_refl bt) _, by simpa using h.lt, ?_, ?_, ?_, ?_, by rw [World.frozen?_setCell]; exact h.f3, h.init.set _, h.row.set (Nat.lt_succ_self bt) _⟩
  · rw [World.cell?_setCell_other _ _ _ _ (by simp)]; exact h.c0
  · rw [World.cell?_setCell_other _ _ _ _ (by simp)]; exact h.c1
  · rw [World.cell?_setCell_other _ _ _ _ (by simp)]; exact h.c2
  · exact World.cell?_setCell_same' _ _ _ (by rw [h.c3]; rfl)
end
end Go.Proofs.YtiaobanloakplaaDoor
end

/- Strips: its walk. -/
section
namespace Go.Proofs.YtiaobanloakplaaDoor
open Go.RowKit
set_option linter.unusedSimpArgs false
set_option linter.unusedVariables false
set_option maxRecDepth 100000

def msF (x : MT) : Int × Int := if (mfF x).1 ≠ 0 then mfF x else if 24 < smN x.sizes x.sizes.length then (10, -8) else (0, 0)
def inN (S init : List Int) (k : Nat) : List Int := (List.range k).map (fun v => smN S v + ix init v)
theorem inN_len (S init : List Int) (k : Nat) : (inN S init k).length = k := by simp [inN]
theorem inN_succ (S init : List Int) (k : Nat) : inN S init (k + 1) = inN S init k ++ [smN S k + ix init k] := by unfold inN; rw [List.range_succ, List.map_append]; rfl
def opS (S : List Int) (o : MOp) : Opr := ⟨gvL S o.pre, gvL S o.post, otL S o.post, o.cost⟩
def opsN (S : List Int) (os : List MOp) (k : Nat) : List Opr := (os.take k).map (opS S)
theorem opsN_len {S : List Int} {os : List MOp} {k : Nat} (h : k ≤ os.length) : (opsN S os k).length = k := by simp [opsN]; omega
theorem opsN_succ {S : List Int} {os : List MOp} {k : Nat} (h : k < os.length) : opsN S os (k + 1) = opsN S os k ++ [opS S (mop os k)] := by
  unfold opsN; rw [List.take_add_one, List.map_append]; simp [mop, List.getD, h]
theorem opsN_all (S : List Int) (os : List MOp) : opsN S os os.length = os.map (opS S) := by unfold opsN; rw [List.take_length]
def tkZ : Tsk := ⟨0, [], [], [], none, none, none, 0, 0, 0⟩
/-- What Strips leaves. -/
def StrP (w : World) (x : MT) (e : Ending) (w' : World) : Prop := ∃ y : Tsk, e = .returned (.tuple #[.agg #[.int .i64 y.n, .slice y.ai y.init.length y.ci, .slice y.ag y.goal.length y.cg, .slice y.ao y.ops.length y.co], faultV (msF x)]) ∧ TskIn w' w'.heap.size y ∧ Below w.heap.size w w' ∧
  ((msF x).1 = 0 → y.n = smN x.sizes x.sizes.length ∧ y.init = inN x.sizes x.init x.sizes.length ∧ y.goal = gvL x.sizes x.goal ∧ y.ops = x.ops.map (opS x.sizes)) ∧ ((msF x).1 ≠ 0 → y = tkZ)
theorem tskIn_zero (w : World) (B : Nat) : TskIn w B tkZ := ⟨lst_nil _ _, lst_nil _ _, fun h => by simp [tkZ] at h, by simp [tkZ], by simp [tkZ, maxLen]⟩

/-- A box with four cells that may be written. -/
structure Quad (W : World) (g : Nat) (a b c d : Value) : Prop where
  lt : g < W.heap.size
  c0 : W.cell? ⟨g, 0, none⟩ = some a
  c1 : W.cell? ⟨g, 1, none⟩ = some b
  c2 : W.cell? ⟨g, 2, none⟩ = some c
  c3 : W.cell? ⟨g, 3, none⟩ = some d
  f0 : W.frozen? ⟨g, 0, none⟩ = false
  f1 : W.frozen? ⟨g, 1, none⟩ = false
  f2 : W.frozen? ⟨g, 2, none⟩ = false
  f3 : W.frozen? ⟨g, 3, none⟩ = false
theorem Quad.to {W W' : World} {g B : Nat} {a b c d : Value} (h : Quad W g a b c d) (hb : Below B W W') (hB : g < B) : Quad W' g a b c d :=
  ⟨Nat.lt_of_lt_of_le h.lt hb.size, (hb.cell (p := ⟨g, 0, none⟩) hB).trans h.c0, (hb.cell (p := ⟨g, 1, none⟩) hB).trans h.c1, (hb.cell (p := ⟨g, 2, none⟩) hB).trans h.c2, (hb.cell (p := ⟨g, 3, none⟩) hB).trans h.c3, (hb.frozen (p := ⟨g, 0, none⟩) hB).trans h.f0, (hb.frozen (p := ⟨g, 1, none⟩) hB).trans h.f1, (hb.frozen (p := ⟨g, 2, none⟩) hB).trans h.f2, (hb.frozen (p := ⟨g, 3, none⟩) hB).trans h.f3⟩
theorem quad_new (W : World) (a b c d : Value) (t : TypeId) : Quad (W.alloc (.cells #[a, b, c, d] t)) W.heap.size a b c d := ⟨by simp, by simp, by simp, by simp, by simp, by simp, by simp, by simp, by simp⟩
theorem Quad.far {W : World} {g : Nat} {a b c d : Value} (h : Quad W g a b c d) {p : Addr} (hp : p.block ≠ g) (u : Value) : Quad (W.setCell p u) g a b c d := by
  refine ⟨by simpa using h.lt, ?_, ?_, ?_, ?_, by rw [World.frozen?_setCell]; exact h.f0, by rw [World.frozen?_setCell]; exact h.f1, by rw [World.frozen?_setCell]; exact h.f2, by rw [World.frozen?_setCell]; exact h.f3⟩
  · rw [World.cell?_setCell_other _ _ _ _ (by rintro rfl; exact hp rfl)]; exact h.c0
  · rw [World.cell?_setCell_other _ _ _ _ (by rintro rfl; exact hp rfl)]; exact h.c1
  · rw [World.cell?_setCell_other _ _ _ _ (by rintro rfl; exact hp rfl)]; exact h.c2
  · rw [World.cell?_setCell_other _ _ _ _ (by rintro rfl; exact hp rfl)]; exact h.c3
theorem Quad.s0 {W : World} {g : Nat} {a b c d : Value} (h : Quad W g a b c d) (u : Value) : Quad (W.setCell ⟨g, 0, none⟩ u) g u b c d := by
  refine ⟨by simpa using h.lt, World.cell?_setCell_same' _ _ _ (by rw [h.c0]; rfl), ?_, ?_, ?_, by rw [World.frozen?_setCell]; exact h.f0, by rw [World.frozen?_setCell]; exact h.f1, by rw [World.frozen?_setCell]; exact h.f2, by rw [World.frozen?_setCell]; exact h.f3⟩
  · rw [World.cell?_setCell_other _ _ _ _ (by simp)]; exact h.c1
  · rw [World.cell?_setCell_other _ _ _ _ (by simp)]; exact h.c2
  · rw [World.cell?_setCell_other _ _ _ _ (by simp)]; exact h.c3
theorem Quad.s1 {W : World} {g : Nat} {a b c d : Value} (h : Quad W g a b c d) (u : Value) : Quad (W.setCell ⟨g, 1, none⟩ u) g a u c d := by
  refine ⟨by simpa using h.lt, ?_, World.cell?_setCell_same' _ _ _ (by rw [h.c1]; rfl), ?_, ?_, by rw [World.frozen?_setCell]; exact h.f0, by rw [World.frozen?_setCell]; exact h.f1, by rw [World.frozen?_setCell]; exact h.f2, by rw [World.frozen?_setCell]; exact h.f3⟩
  · rw [World.cell?_setCell_other _ _ _ _ (by simp)]; exact h.c0
  · rw [World.cell?_setCell_other _ _ _ _ (by simp)]; exact h.c2
  · rw [World.cell?_setCell_other _ _ _ _ (by simp)]; exact h.c3
theorem Quad.s2 {W : World} {g : Nat} {a b c d : Value} (h : Quad W g a b c d) (u : Value) : Quad (W.setCell ⟨g, 2, none⟩ u) g a b u d := by
  refine ⟨by simpa using h.lt, ?_, ?_, World.cell?_setCell_same' _ _ _ (by rw [h.c2]; rfl), ?_, by rw [World.frozen?_setCell]; exact h.f0, by rw [World.frozen?_setCell]; exact h.f1, by rw [World.frozen?_setCell]; exact h.f2, by rw [World.frozen?_setCell]; exact h.f3⟩
  · rw [World.cell?_setCell_other _ _ _ _ (by simp)]; exact h.c0
  · rw [World.cell?_setCell_other _ _ _ _ (by simp)]; exact h.c1
  · rw [World.cell?_setCell_other _ _ _ _ (by simp)]; exact h.c3
theorem Quad.s3 {W : World} {g : Nat} {a b c d : Value} (h : Quad W g a b c d) (u : Value) : Quad (W.setCell ⟨g, 3, none⟩ u) g a b c u := by
  refine ⟨by simpa using h.lt, ?_, ?_, ?_, World.cell?_setCell_same' _ _ _ (by rw [h.c3]; rfl), by rw [World.frozen?_setCell]; exact h.f0, by rw [World.frozen?_setCell]; exact h.f1, by rw [World.frozen?_setCell]; exact h.f2, by rw [World.frozen?_setCell]; exact h.f3⟩
  · rw [World.cell?_setCell_other _ _ _ _ (by simp)]; exact h.c0
  · rw [World.cell?_setCell_other _ _ _ _ (by simp)]; exact h.c1
  · rw [World.cell?_setCell_other _ _ _ _ (by simp)]; exact h.c2
theorem post_task_fault {fn : Func} {R : Ending → World → Prop} {tmps : Array Value} {W : World} {s t : Tmp} {g g2 : Nat} {a b c d x y : Value} (hres : fn.results = #[.cell t 25, .cell s 28]) (hz : tmps.getD t undef = .pointer (some ⟨g2, 0, none⟩)) (ht : tmps.getD s undef = .pointer (some ⟨g, 0, none⟩)) (hQ : Quad W g2 a b c d) (hT : Two W g x y)
    (hR : R (.returned (.tuple #[.agg #[a, b, c, d], .agg #[x, y]])) W) : bodyPost Tryd.prog fn R .ret { tmps := tmps, defers := [] } W := by
  refine bodyPost_ret (v := .tuple #[.agg #[a, b, c, d], .agg #[x, y]]) ?_ rfl hR
  simp only [results, hres]
  rw [Array.getD_eq_getD_getElem?] at ht hz
  simp [go_sem, hz, ht, hT.fst, hT.snd, hQ.c0, hQ.c1, hQ.c2, hQ.c3]

/-- What a call of Strips has laid first. -/
structure QS (w W : World) (x : MT) : Prop where
  below : Below w.heap.size w W
  box : MBox W w.heap.size x
  res : Quad W (w.heap.size + 1) (.int .i64 0) (.slice none 0 0) (.slice none 0 0) (.slice none 0 0)
  two : Two W (w.heap.size + 2) (.int .i64 0) (.int .i64 0)
theorem QS.toB {w W W' : World} {x : MT} {base : Nat} (h : QS w W x) (hb : Below base W W') (hB : w.heap.size + 3 ≤ base) : QS w W' x :=
  ⟨h.below.trans (hb.mono (by omega)), h.box.to hb (by omega), h.res.to hb (by omega), h.two.to hb (by omega)⟩
theorem QS.to {w W W' : World} {x : MT} (h : QS w W x) (hb : Below W.heap.size W W') : QS w W' x := h.toB hb h.two.lt
theorem qs_new (w : World) (x : MT) (t t' t2 : TypeId) : QS w (((w.alloc (.cells #[.slice x.az x.sizes.length x.cz, .slice x.ai x.init.length x.ci, .slice x.ag x.goal.length x.cg, .slice x.ao x.ops.length x.co] t)).alloc (.cells #[.int .i64 0, .slice none 0 0, .slice none 0 0, .slice none 0 0] t')).alloc (.cells #[.int .i64 0, .int .i64 0] t2)) x := by
  have h1 := mbox_new w x t
  have hb1 := al_b (w.alloc (.cells #[.slice x.az x.sizes.length x.cz, .slice x.ai x.init.length x.ci, .slice x.ag x.goal.length x.cg, .slice x.ao x.ops.length x.co] t)) (.cells #[.int .i64 0, .slice none 0 0, .slice none 0 0, .slice none 0 0] t')
  have hb2 := al_b ((w.alloc (.cells #[.slice x.az x.sizes.length x.cz, .slice x.ai x.init.length x.ci, .slice x.ag x.goal.length x.cg, .slice x.ao x.ops.length x.co] t)).alloc (.cells #[.int .i64 0, .slice none 0 0, .slice none 0 0, .slice none 0 0] t')) (.cells #[.int .i64 0, .int .i64 0] t2)
  have q := quad_new (w.alloc (.cells #[.slice x.az x.sizes.length x.cz, .slice x.ai x.init.length x.ci, .slice x.ag x.goal.length x.cg, .slice x.ao x.ops.length x.co] t)) (.int .i64 0) (.slice none 0 0) (.slice none 0 0) (.slice none 0 0) t'
  have z := two_new ((w.alloc (.cells #[.slice x.az x.sizes.length x.cz, .slice x.ai x.init.length x.ci, .slice x.ag x.goal.length x.cg, .slice x.ao x.ops.length x.co] t)).alloc (.cells #[.int .i64 0, .slice none 0 0, .slice none 0 0, .slice none 0 0] t')) (.int .i64 0) (.int .i64 0) t2
  refine ⟨by go_grown, (h1.to hb1 (by simp)).to hb2 (by simp; omega), ?_, ?_⟩
  · have := q.to hb2 (by simp)
    simpa using this
  · simpa using z
/-- The results are written. -/
theorem QS.put {w W : World} {x : MT} (h : QS w W x) (a b c d : Value) (u v : Value) :
    let W' := (((((W.setCell ⟨w.heap.size + 1, 0, none⟩ a).setCell ⟨w.heap.size + 1, 1, none⟩ b).setCell ⟨w.heap.size + 1, 2, none⟩ c).setCell ⟨w.heap.size + 1, 3, none⟩ d).setCell ⟨w.heap.size + 2, 0, none⟩ u).setCell ⟨w.heap.size + 2, 1, none⟩ v
    Quad W' (w.heap.size + 1) a b c d ∧ Two W' (w.heap.size + 2) u v ∧ Below w.heap.size w W' := by
  refine ⟨((((((h.res.s0 a).s1 b).s2 c).s3 d).far (by simp) u).far (by simp) v), ((((h.two.far (by simp) a).far (by simp) b).far (by simp) c).far (by simp) d).set u v, ?_⟩
  exact (((((h.below.setCell (by simp) _).setCell (by simp) _).setCell (by simp) _).setCell (by simp) _).setCell (by simp) _).setCell (by simp) _
theorem QS.put2 {w W : World} {x : MT} (h : QS w W x) (a b c d : Value) (u v : Value) :
    let W' := (((((W.setCell ⟨w.heap.size + 2, 0, none⟩ u).setCell ⟨w.heap.size + 2, 1, none⟩ v).setCell ⟨w.heap.size + 1, 0, none⟩ a).setCell ⟨w.heap.size + 1, 1, none⟩ b).setCell ⟨w.heap.size + 1, 2, none⟩ c).setCell ⟨w.heap.size + 1, 3, none⟩ d
    Quad W' (w.heap.size + 1) a b c d ∧ Two W' (w.heap.size + 2) u v ∧ Below w.heap.size w W' := by
  refine ⟨((((((h.res.far (by simp) u).far (by simp) v).s0 a).s1 b).s2 c).s3 d), ((((h.two.set u v).far (by simp) a).far (by simp) b).far (by simp) c).far (by simp) d, ?_⟩
  exact (((((h.below.setCell (by simp) _).setCell (by simp) _).setCell (by simp) _).setCell (by simp) _).setCell (by simp) _).setCell (by simp) _
end Go.Proofs.YtiaobanloakplaaDoor
end

/- Strips: the walk. -/
section
namespace Go.Proofs.YtiaobanloakplaaDoor
open Go.RowKit
set_option linter.unusedSimpArgs false
set_option linter.unusedVariables false
set_option maxRecDepth 100000

end Go.Proofs.YtiaobanloakplaaDoor
end
