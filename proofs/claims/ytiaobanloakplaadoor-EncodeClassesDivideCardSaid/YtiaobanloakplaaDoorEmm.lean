/- Facts that hang on some blocks alone; growing rows whose elements point to other blocks. -/
import Derived.Test.YtiaobanloakplaaDoorKpl
namespace Go.Proofs.YtiaobanloakplaaDoor
open Go.RowKit
set_option linter.unusedSimpArgs false
set_option linter.unusedVariables false
set_option maxRecDepth 100000

/-- From block a to below block b nothing has turned, and no block has gone. -/
structure Eqr (a b : Nat) (W W2 : World) : Prop where
  eq : ∀ k, a ≤ k → k < b → W2.heap[k]? = W.heap[k]?
  size : W.heap.size ≤ W2.heap.size
section
variable {W W2 W3 : World} {a b : Nat}
theorem Eqr.refl (a b : Nat) (W : World) : Eqr a b W W := ⟨fun _ _ _ => rfl, Nat.le_refl _⟩
theorem Eqr.trans (h : Eqr a b W W2) (k : Eqr a b W2 W3) : Eqr a b W W3 := ⟨fun i h1 h2 => (k.eq i h1 h2).trans (h.eq i h1 h2), Nat.le_trans h.size k.size⟩
theorem Eqr.below {B : Nat} (h : Eqr a b W W2) (hb : Below B W2 W3) (hB : b ≤ B) : Eqr a b W W3 := h.trans ⟨fun k h1 h2 => hb.block k (by omega), hb.size⟩
theorem Eqr.grown {row : Option Nat} (h : Eqr a b W W2) (hg : W2.grownBy W3 row) (hb : b ≤ W2.heap.size) (hr : ∀ q, row = some q → q < a ∨ b ≤ q) : Eqr a b W W3 :=
  h.trans ⟨fun k h1 h2 => hg.block k (by omega) (fun e => by have := hr k e.symm; omega), hg.size⟩
theorem Eqr.set (h : Eqr a b W W2) {p : Addr} (hp : p.block < a ∨ b ≤ p.block) (u : Value) : Eqr a b W (W2.setCell p u) :=
  h.trans ⟨fun k h1 h2 => Below.heap_setCell _ _ _ _ (by omega), by simp [World.setCell]⟩
theorem Eqr.alloc (h : Eqr a b W W2) (hb : b ≤ W2.heap.size) (o : Obj) : Eqr a b W (W2.alloc o) := h.below ((Below.refl _ _).alloc (Nat.le_refl _) o) hb
theorem Eqr.drewN (h : Eqr a b W W2) (n : Nat) : Eqr a b W (W2.drewN n) := ⟨h.eq, h.size⟩
theorem Eqr.mono {a2 b2 : Nat} (h : Eqr a b W W2) (h1 : a ≤ a2) (h2 : b2 ≤ b) : Eqr a2 b2 W W2 := ⟨fun k q1 q2 => h.eq k (by omega) (by omega), h.size⟩
theorem Eqr.cell (h : Eqr a b W W2) {g o : Nat} {v : Value} (hc : W.cell? ⟨g, o, none⟩ = some v) (h1 : a ≤ g) (h2 : g < b) : W2.cell? ⟨g, o, none⟩ = some v := by
  rw [World.cell?_of_block (h.eq g h1 h2)]; exact hc
end

/-- P holds in every world in which the blocks F are as in W. -/
def On (F : Nat → Prop) (W : World) (P : World → Prop) : Prop := ∀ W2 : World, (∀ b, F b → W2.heap[b]? = W.heap[b]?) → W.heap.size ≤ W2.heap.size → P W2
/-- The blocks from a to below b; the same without the one that v lies in. -/
def Rg (a b : Nat) (k : Nat) : Prop := a ≤ k ∧ k < b
def Rx (a b : Nat) (v : Value) (k : Nat) : Prop := a ≤ k ∧ k < b ∧ v.ownBlock ≠ some k
section
variable {F G : Nat → Prop} {W W2 : World} {P Q : World → Prop} {a b : Nat}
theorem On.out (h : On F W P) : P W := h W (fun _ _ => rfl) (Nat.le_refl _)
theorem On.imp (h : On F W P) (hF : ∀ b, F b → G b) : On G W P := fun W2 h2 hs => h W2 (fun b hb => h2 b (hF b hb)) hs
theorem On.map (h : On F W P) (hP : ∀ W, P W → Q W) : On F W Q := fun W2 h2 hs => hP W2 (h W2 h2 hs)
theorem On.and (h : On F W P) (k : On F W Q) : On F W (fun W => P W ∧ Q W) := fun W2 h2 hs => ⟨h W2 h2 hs, k W2 h2 hs⟩
theorem On.always (hP : ∀ W, P W) : On F W P := fun W2 _ _ => hP W2
theorem On.below {B : Nat} (h : On F W P) (hb : Below B W W2) (hF : ∀ b, F b → b < B) : On F W2 P :=
  fun W3 h2 hs => h W3 (fun b q => (h2 b q).trans (hb.block b (hF b q))) (Nat.le_trans hb.size hs)
theorem On.grown {row : Option Nat} (h : On F W P) (hg : W.grownBy W2 row) (hF : ∀ b, F b → b < W.heap.size ∧ row ≠ some b) : On F W2 P :=
  fun W3 h2 hs => h W3 (fun b q => (h2 b q).trans (hg.block b (hF b q).1 (fun e => (hF b q).2 e.symm))) (Nat.le_trans hg.size hs)
theorem On.set (h : On F W P) {p : Addr} (hF : ∀ b, F b → b ≠ p.block) (u : Value) : On F (W.setCell p u) P :=
  fun W3 h2 hs => h W3 (fun b q => (h2 b q).trans (Below.heap_setCell _ _ _ _ (hF b q))) (by simpa [World.setCell] using hs)
theorem On.alloc (h : On F W P) (o : Obj) (hF : ∀ b, F b → b < W.heap.size) : On F (W.alloc o) P := h.below ((Below.refl _ _).alloc (Nat.le_refl _) o) hF
theorem On.drewN (h : On F W P) (n : Nat) : On F (W.drewN n) P := h
theorem On.at_ (h : On (Rg a b) W P) (e : Eqr a b W W2) : P W2 := h W2 (fun k hk => e.eq k hk.1 hk.2) e.size
theorem On.wide {a2 b2 : Nat} (h : On (Rg a b) W P) (h1 : a2 ≤ a) (h2 : b ≤ b2) : On (Rg a2 b2) W P := h.imp fun k hk => ⟨by have := hk.1; omega, by have := hk.2; omega⟩
end

/-- A growing row in a block of its own, from block base on; P holds of what its elements point to, which hangs on no other block from base on than it, and not on the row's. -/
structure GRow (W : World) (base : Nat) (e : TypeId) (size : Nat) (v : Value) (n : Nat) (xs : List Value) (P : World → Prop) : Prop where
  own : W.ownsRow base e size v n xs
  cont : On (Rx base W.heap.size v) W P
section
variable {W W2 : World} {base : Nat} {e : TypeId} {size n m : Nat} {v v2 : Value} {xs ys : List Value} {P Q : World → Prop}
theorem GRow.nil (W : World) (base : Nat) (e : TypeId) (size : Nat) (hP : ∀ W, P W) : GRow W base e size (.slice none 0 0) 0 [] P := ⟨World.ownsRow_nil _ _ _ _, On.always hP⟩
theorem GRow.to (h : GRow W base e size v n xs P) (hb : Below W.heap.size W W2) : GRow W2 base e size v n xs P :=
  ⟨own_to h.own hb, (h.cont.below hb (fun b q => q.2.1)).imp fun b q => ⟨q.1, Nat.lt_of_lt_of_le q.2.1 hb.size, q.2.2⟩⟩
theorem GRow.far (h : GRow W base e size v n xs P) {p : Addr} (hp : p.block < base) (u : Value) : GRow (W.setCell p u) base e size v n xs P := by
  refine ⟨ownsRow_setCell_below h.own hp u, ?_⟩
  have := h.cont.set (p := p) (fun b q e => by have := q.1; omega) u
  simpa [World.setCell] using this
theorem GRow.grown {row : Option Nat} (h : GRow W base e size v n xs P) (hg : W.grownBy W2 row) (hr : ∀ q, row = some q → q < base) : GRow W2 base e size v n xs P := by
  refine ⟨h.own.kept hg ?_, (h.cont.grown hg (fun b q => ⟨q.2.1, fun e => by have := hr b e; have := q.1; omega⟩)).imp fun b q => ⟨q.1, Nat.lt_of_lt_of_le q.2.1 hg.size, q.2.2⟩⟩
  cases hv : v.ownBlock with
  | none => exact .inl rfl
  | some q => exact .inr (fun e => by have := (h.own.lt q hv).1; have := hr q e.symm; omega)
theorem GRow.map (h : GRow W base e size v n xs P) (hP : ∀ W, P W → Q W) : GRow W base e size v n xs Q := ⟨h.own, h.cont.map hP⟩
theorem GRow.app (h : GRow W base e size v n xs P) (hq : On (Rx base W.heap.size v) W Q) (hown : W2.ownsRow base e size v2 (n + m) (xs ++ ys)) (hg : W.grownBy W2 v.ownBlock)
    (hat : v2.ownBlock = v.ownBlock ∨ v2.ownBlock = some W.heap.size) : GRow W2 base e size v2 (n + m) (xs ++ ys) (fun W => P W ∧ Q W) := by
  refine ⟨hown, ((h.cont.and hq).grown hg (fun b q => ⟨q.2.1, q.2.2⟩)).imp fun b q => ⟨q.1, Nat.lt_of_lt_of_le q.2.1 hg.size, fun e => ?_⟩⟩
  rcases hat with h1 | h1
  · exact q.2.2 (h1 ▸ e)
  · rw [h1] at e; injection e with e; have := q.2.1; omega
/-- The row and what its elements point to hang on the blocks from base on alone. -/
theorem GRow.on (h : GRow W base e size v n xs P) : On (Rg base W.heap.size) W (fun W => W.ownsRow 0 e size v n xs ∧ P W) := by
  intro W3 h2 hs
  refine ⟨?_, h.cont W3 (fun b q => h2 b ⟨q.1, q.2.1⟩) hs⟩
  rcases h.own with ⟨h1, hn | ⟨g, cap, cur, e1, hg, hh, h3⟩⟩
  · exact ⟨h1, .inl hn⟩
  · exact ⟨h1, .inr ⟨g, cap, cur, e1, Nat.zero_le _, (h2 g ⟨hg, (Array.getElem?_eq_some_iff.1 hh).1⟩).trans hh, h3⟩⟩
theorem GRow.mono {base2 : Nat} (h : GRow W base e size v n xs P) (hb : base2 ≤ base) : GRow W base2 e size v n xs P := by
  refine ⟨?_, h.cont.imp fun b q => ⟨Nat.le_trans hb q.1, q.2⟩⟩
  rcases h.own with ⟨h1, hn | ⟨g, cap, cur, e1, hg, h3⟩⟩
  · exact ⟨h1, .inl hn⟩
  · exact ⟨h1, .inr ⟨g, cap, cur, e1, Nat.le_trans hb hg, h3⟩⟩
/-- Where the row lies. -/
theorem GRow.lt (h : GRow W base e size v n xs P) : ∀ q, v.ownBlock = some q → base ≤ q ∧ q < W.heap.size := h.own.lt
end
/-- The row's block is none from a to below b. -/
def Out (v : Value) (a b : Nat) : Prop := ∀ q, v.ownBlock = some q → q < a ∨ b ≤ q
theorem Out.of_lt {W : World} {base : Nat} {e : TypeId} {size n : Nat} {v : Value} {xs : List Value} (h : W.ownsRow base e size v n xs) {b : Nat} : Out v W.heap.size b := fun q hq => .inl (h.lt q hq).2
theorem Out.nil (a b : Nat) : Out (.slice none 0 0) a b := fun q hq => by cases hq
theorem Out.next {v v2 : Value} {a b s : Nat} (h : Out v a b) (hat : v2.ownBlock = v.ownBlock ∨ v2.ownBlock = some s) (hs : b ≤ s) : Out v2 a b := by
  intro q hq
  rcases hat with h1 | h1
  · exact h q (h1 ▸ hq)
  · rw [h1] at hq; injection hq with hq; omega

/-- A list of numbers in a slice; where there is no array, there is no room. -/
structure LstN (W : World) (a : Option Addr) (c : Nat) (l : List Int) : Prop where
  lst : Lst W W.heap.size a c l
  nil : a = none → c = 0
/-- v is a slice that holds l. -/
def SlL (l : List Int) (v : Value) (W : World) : Prop := ∃ a c, v = .slice a l.length c ∧ LstN W a c l
theorem slL_own {W : World} {base : Nat} {v : Value} {l : List Int} (h : W.ownsRow base 3 1 v l.length (l.map (Value.int .i64))) : SlL l v W := by
  obtain ⟨a, c, e, hl⟩ := (sliceOf_own h).set
  refine ⟨a, c, e, hl, fun ha => ?_⟩
  rcases h.2 with ⟨e2, _⟩ | ⟨g, cap, cur, e2, _⟩
  · rw [e] at e2; injection e2
  · rw [e, ha] at e2; injection e2 with e3; cases e3
/-- What owns a row of numbers hangs on its block alone. -/
theorem slL_on {W : World} {base : Nat} {v : Value} {l : List Int} (h : W.ownsRow base 3 1 v l.length (l.map (Value.int .i64))) : On (Rg base W.heap.size) W (SlL l v) := by
  have h1 : GRow W base 3 1 v l.length (l.map (Value.int .i64)) (fun _ => True) := ⟨h, On.always fun _ => trivial⟩
  exact h1.on.map fun W2 h2 => slL_own h2.1
/-- Rows of lists: the values of the row, and the lists that they hold. -/
def LsP (xs : List Value) (ls : List (List Int)) (W : World) : Prop := ∀ k, k < ls.length → ∃ u, xs[k]? = some u ∧ SlL (rw_ ls k) u W
def ListsR (W : World) (base : Nat) (v : Value) (ls : List (List Int)) : Prop := ∃ xs, GRow W base 22 1 v ls.length xs (LsP xs ls)
section
variable {W W2 : World} {base : Nat} {v v2 : Value} {ls : List (List Int)}
theorem ListsR.nil (W : World) (base : Nat) : ListsR W base (.slice none 0 0) [] := ⟨[], GRow.nil _ _ _ _ fun _ k h => by simp at h⟩
theorem ListsR.to (h : ListsR W base v ls) (hb : Below W.heap.size W W2) : ListsR W2 base v ls := by obtain ⟨xs, h⟩ := h; exact ⟨xs, h.to hb⟩
theorem ListsR.far (h : ListsR W base v ls) {p : Addr} (hp : p.block < base) (u : Value) : ListsR (W.setCell p u) base v ls := by obtain ⟨xs, h⟩ := h; exact ⟨xs, h.far hp u⟩
theorem ListsR.mono {base2 : Nat} (h : ListsR W base v ls) (hb : base2 ≤ base) : ListsR W base2 v ls := by obtain ⟨xs, h⟩ := h; exact ⟨xs, h.mono hb⟩
theorem lsP_snoc {xs : List Value} {ls : List (List Int)} {l : List Int} {u : Value} (hl : xs.length = ls.length) {W : World} (h : LsP xs ls W ∧ SlL l u W) : LsP (xs ++ [u]) (ls ++ [l]) W := by
  intro k hk
  rw [List.length_append, List.length_singleton] at hk
  by_cases e : k < ls.length
  · obtain ⟨q, h1, h2⟩ := h.1 k e
    exact ⟨q, by rw [List.getElem?_append_left (by omega)]; exact h1, by rw [rw_snoc_lt e]; exact h2⟩
  · obtain rfl : k = ls.length := by omega
    refine ⟨u, by rw [← hl]; simp, ?_⟩
    rw [rw_snoc_last]
    exact h.2
/-- Behind an append of one list. -/
theorem listsR_app {xs : List Value} {l : List Int} {u : Value} (h : GRow W base 22 1 v ls.length xs (LsP xs ls)) (hq : On (Rx base W.heap.size v) W (SlL l u))
    (hown : W2.ownsRow base 22 1 v2 (ls.length + 1) (xs ++ [u])) (hg : W.grownBy W2 v.ownBlock) (hat : v2.ownBlock = v.ownBlock ∨ v2.ownBlock = some W.heap.size) : ListsR W2 base v2 (ls ++ [l]) := by
  have hl : xs.length = ls.length := by have := h.own.1; simpa using this
  refine ⟨xs ++ [u], ?_⟩
  rw [List.length_append, List.length_singleton]
  exact (h.app hq hown hg hat).map fun W3 q => lsP_snoc hl q
theorem LstN.to {a : Option Addr} {c : Nat} {l : List Int} (h : LstN W a c l) (hb : Below W.heap.size W W2) : LstN W2 a c l := ⟨h.lst.to hb hb.size, h.nil⟩
theorem SlL.to {l : List Int} {v : Value} (h : SlL l v W) (hb : Below W.heap.size W W2) : SlL l v W2 := by
  obtain ⟨a, c, e, h1⟩ := h
  exact ⟨a, c, e, h1.to hb⟩
/-- The slice at a holds the rows ls. -/
def RwsN (W : World) (a : Option Addr) (ls : List (List Int)) : Prop :=
  0 < ls.length → ∃ b o, a = some ⟨b, o, none⟩ ∧ b < W.heap.size ∧ ∀ k, k < ls.length → ∃ ak ck, W.cell? ⟨b, o + k, none⟩ = some (.slice ak (rw_ ls k).length ck) ∧ LstN W ak ck (rw_ ls k)
theorem RwsN.rws {a : Option Addr} (h : RwsN W a ls) : Rws W W.heap.size a ls := by
  intro h0
  obtain ⟨b, o, e, hb, hk⟩ := h h0
  exact ⟨b, o, e, hb, fun k h1 => by obtain ⟨ak, ck, q1, q2⟩ := hk k h1; exact ⟨ak, ck, q1, q2.lst⟩⟩
theorem RwsN.to {a : Option Addr} (h : RwsN W a ls) (hb : Below W.heap.size W W2) : RwsN W2 a ls := by
  intro h0
  obtain ⟨b, o, e, hlt, hk⟩ := h h0
  exact ⟨b, o, e, Nat.lt_of_lt_of_le hlt hb.size, fun k h1 => by obtain ⟨ak, ck, q1, q2⟩ := hk k h1; exact ⟨ak, ck, (hb.cell (p := ⟨b, o + k, none⟩) hlt).trans q1, q2.to hb⟩⟩
theorem RwsN.at_ {a : Option Addr} (h : RwsN W a ls) {k : Nat} (hk : k < ls.length) : ∃ b o ak ck, a = some ⟨b, o, none⟩ ∧ b < W.heap.size ∧ W.cell? ⟨b, o + k, none⟩ = some (.slice ak (rw_ ls k).length ck) ∧ LstN W ak ck (rw_ ls k) := by
  obtain ⟨b, o, ha, hlt, hc⟩ := h (by omega)
  obtain ⟨ak, ck, q1, q2⟩ := hc k hk
  exact ⟨b, o, ak, ck, ha, hlt, q1, q2⟩
/-- A slice of lists, to be read. -/
def SlLs (ls : List (List Int)) (v : Value) (W : World) : Prop := ∃ a c, v = .slice a ls.length c ∧ RwsN W a ls ∧ ls.length ≤ c ∧ c ≤ maxLen
theorem lsP_slice {W : World} {xs : List Value} (ho : W.ownsRow base 22 1 v ls.length xs) (h : LsP xs ls W) : SlLs ls v W := by
  rcases ho.2 with ⟨rfl, h0⟩ | ⟨g, cap, cur, rfl, hg, hh, hn, hcap, hcs, hx⟩
  · exact ⟨none, 0, by rw [h0], fun h => by omega, by omega, by simp [maxLen]⟩
  · refine ⟨_, cap, rfl, fun h0 => ⟨g, 0, rfl, (Array.getElem?_eq_some_iff.1 hh).1, fun k hk => ?_⟩, hn, hcap⟩
    obtain ⟨u, hu, a, c, rfl, hlst⟩ := h k hk
    refine ⟨a, c, ?_, hlst⟩
    have := ho.cells (g := g) rfl k _ hu
    simpa [Addr.add_lit] using this
theorem ListsR.on (h : ListsR W base v ls) : On (Rg base W.heap.size) W (SlLs ls v) := by
  obtain ⟨xs, h⟩ := h
  exact h.on.map fun W2 q => lsP_slice q.1 q.2
theorem ListsR.slice (h : ListsR W base v ls) : SlLs ls v W := h.on.out
end
theorem SlLs.to {W W2 : World} {ls : List (List Int)} {v : Value} (h : SlLs ls v W) (hb : Below W.heap.size W W2) : SlLs ls v W2 := by
  obtain ⟨a, c, e, h1, h2, h3⟩ := h
  exact ⟨a, c, e, h1.to hb, h2, h3⟩
end Go.Proofs.YtiaobanloakplaaDoor
