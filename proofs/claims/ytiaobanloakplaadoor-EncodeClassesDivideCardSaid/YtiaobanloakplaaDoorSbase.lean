/- Words for memory and the small contracts of the reference, for the laws on expressions. -/
import Derived.Test.YtiaobanloakplaaDoorRows
import Derived.WalkKit
import Derived.WalkSpells
import Derived.WalkLawsBesides
import Derived.Handy
import Derived.Lib.Hide
import Derived.Deep.QuietTactic
import Derived.BigQuiet
import Derived.StillTailTactics
import Derived.Maps.AppendAt
namespace Go.Proofs.YtiaobanloakplaaDoor
open Go.RowKit
set_option linter.unusedSimpArgs false
set_option linter.unusedVariables false
set_option maxRecDepth 100000

theorem ret_int {k : IntKind} {a b : Int} (h : a = b) : Ending.returned (.int k a) = Ending.returned (.int k b) := by rw [h]
theorem ret_bool {a b : Bool} (h : a = b) : Ending.returned (.bool a) = Ending.returned (.bool b) := by rw [h]
theorem ret_val {a b : Value} (h : a = b) : Ending.returned a = Ending.returned b := by rw [h]
/-- Block g begins with the two cells x, y, and they may be written. -/
structure Two (w : World) (g : Nat) (x y : Value) : Prop where
  lt : g < w.heap.size
  fst : w.cell? ⟨g, 0, none⟩ = some x
  snd : w.cell? ⟨g, 1, none⟩ = some y
  ffst : w.frozen? ⟨g, 0, none⟩ = false
  fsnd : w.frozen? ⟨g, 1, none⟩ = false
/-- Block g begins with the cell x, and it may be written. -/
structure One (w : World) (g : Nat) (x : Value) : Prop where
  lt : g < w.heap.size
  fst : w.cell? ⟨g, 0, none⟩ = some x
  ffst : w.frozen? ⟨g, 0, none⟩ = false
theorem Two.to {w w' : World} {g B : Nat} {x y : Value} (h : Two w g x y) (hb : Below B w w') (hg : g < B) : Two w' g x y :=
  ⟨Nat.lt_of_lt_of_le h.lt hb.size, (hb.cell (p := ⟨g, 0, none⟩) hg).trans h.fst, (hb.cell (p := ⟨g, 1, none⟩) hg).trans h.snd,
    (hb.frozen (p := ⟨g, 0, none⟩) hg).trans h.ffst, (hb.frozen (p := ⟨g, 1, none⟩) hg).trans h.fsnd⟩
theorem Two.set {w : World} {g : Nat} {x y : Value} (h : Two w g x y) (u v : Value) : Two ((w.setCell ⟨g, 0, none⟩ u).setCell ⟨g, 1, none⟩ v) g u v := by
  refine ⟨by simpa using h.lt, ?_, ?_, ?_, ?_⟩
  · rw [World.cell?_setCell_other _ _ _ _ (by simp)]
    exact World.cell?_setCell_same' _ _ _ (by rw [h.fst]; rfl)
  · exact World.cell?_setCell_same' _ _ _ (by rw [World.cell?_setCell_other _ _ _ _ (by simp), h.snd]; rfl)
  · rw [World.frozen?_setCell, World.frozen?_setCell]; exact h.ffst
  · rw [World.frozen?_setCell, World.frozen?_setCell]; exact h.fsnd
theorem Two.far {w : World} {g : Nat} {x y : Value} (h : Two w g x y) {p : Addr} (hp : p.block ≠ g) (u : Value) : Two (w.setCell p u) g x y := by
  refine ⟨by simpa using h.lt, ?_, ?_, ?_, ?_⟩
  · rw [World.cell?_setCell_other _ _ _ _ (by rintro rfl; exact hp rfl)]; exact h.fst
  · rw [World.cell?_setCell_other _ _ _ _ (by rintro rfl; exact hp rfl)]; exact h.snd
  · rw [World.frozen?_setCell]; exact h.ffst
  · rw [World.frozen?_setCell]; exact h.fsnd
theorem One.far {w : World} {g : Nat} {x : Value} (h : One w g x) {p : Addr} (hp : p.block ≠ g) (u : Value) : One (w.setCell p u) g x := by
  refine ⟨by simpa using h.lt, ?_, ?_⟩
  · rw [World.cell?_setCell_other _ _ _ _ (by rintro rfl; exact hp rfl)]; exact h.fst
  · rw [World.frozen?_setCell]; exact h.ffst
theorem One.set {w : World} {g : Nat} {x : Value} (h : One w g x) (u : Value) : One (w.setCell ⟨g, 0, none⟩ u) g u := by
  refine ⟨by simpa using h.lt, World.cell?_setCell_same' _ _ _ (by rw [h.fst]; rfl), ?_⟩
  rw [World.frozen?_setCell]; exact h.ffst
theorem One.to {w w' : World} {g B : Nat} {x : Value} (h : One w g x) (hb : Below B w w') (hg : g < B) : One w' g x :=
  ⟨Nat.lt_of_lt_of_le h.lt hb.size, (hb.cell (p := ⟨g, 0, none⟩) hg).trans h.fst, (hb.frozen (p := ⟨g, 0, none⟩) hg).trans h.ffst⟩
/-- Two strings are equal. -/
def eqB (s t : ByteArray) : Bool := s.toList == t.toList
theorem eqB_iff (s t : ByteArray) : eqB s t = true ↔ s = t := by
  unfold eqB
  rw [beq_iff_eq, ByteArray.toList_eq, ByteArray.toList_eq]
  constructor
  · intro h
    cases s; cases t
    simp at h
    simp [h]
  · rintro rfl; rfl

theorem toList_nil {s : ByteArray} (h : s.size = 0) : s.toList = [] := by
  have : s.toList.length = 0 := by rw [ByteArray.toList_eq]; exact h
  exact List.eq_nil_of_length_eq_zero this
theorem toList_not {s : ByteArray} (h : 0 < s.size) : s.toList.isEmpty = false := by
  have : 0 < s.toList.length := by rw [ByteArray.toList_eq]; exact h
  cases e : s.toList with
  | nil => rw [e] at this; simp at this
  | cons _ _ => rfl
theorem two_new (w : World) (u v : Value) (t : TypeId) : Two (w.alloc (.cells #[u, v] t)) w.heap.size u v := ⟨by simp, by simp, by simp, by simp, by simp⟩
theorem one_new (w : World) (u : Value) (t : TypeId) : One (w.alloc (.cells #[u] t)) w.heap.size u := ⟨by simp, by simp, by simp⟩
section
variable {w w' : World} {g : Nat} {x y : Value}
theorem two_to (h : Two w g x y) (hb : Below w.heap.size w w') : Two w' g x y := h.to hb h.lt
theorem one_to (h : One w g x) (hb : Below w.heap.size w w') : One w' g x := h.to hb h.lt
theorem Two.alloc (h : Two w g x y) (o : Obj) : Two (w.alloc o) g x y := two_to h ((Below.refl _ _).alloc (Nat.le_refl _) o)
theorem One.alloc (h : One w g x) (o : Obj) : One (w.alloc o) g x := one_to h ((Below.refl _ _).alloc (Nat.le_refl _) o)
theorem twoN (h : Two w g x y) (n : Nat) : Two (w.drewN n) g x y := ⟨h.lt, h.fst, h.snd, h.ffst, h.fsnd⟩
theorem oneN (h : One w g x) (n : Nat) : One (w.drewN n) g x := ⟨h.lt, h.fst, h.ffst⟩
theorem two1 (h : Two w g x y) : Two w.drew g x y := ⟨h.lt, h.fst, h.snd, h.ffst, h.fsnd⟩
theorem one1 (h : One w g x) : One w.drew g x := ⟨h.lt, h.fst, h.ffst⟩
theorem Two.set0 (h : Two w g x y) (u : Value) : Two (w.setCell ⟨g, 0, none⟩ u) g u y := by
  refine ⟨by simpa using h.lt, World.cell?_setCell_same' _ _ _ (by rw [h.fst]; rfl), ?_, ?_, ?_⟩
  · rw [World.cell?_setCell_other _ _ _ _ (by simp)]; exact h.snd
  · rw [World.frozen?_setCell]; exact h.ffst
  · rw [World.frozen?_setCell]; exact h.fsnd
theorem Two.set1 (h : Two w g x y) (u : Value) : Two (w.setCell ⟨g, 1, none⟩ u) g x u := by
  refine ⟨by simpa using h.lt, ?_, World.cell?_setCell_same' _ _ _ (by rw [h.snd]; rfl), ?_, ?_⟩
  · rw [World.cell?_setCell_other _ _ _ _ (by simp)]; exact h.fst
  · rw [World.frozen?_setCell]; exact h.ffst
  · rw [World.frozen?_setCell]; exact h.fsnd
/-- Block g begins with two cells that may be written. -/
def Pair (w : World) (g : Nat) : Prop := ∃ x y, Two w g x y
theorem Two.pair (h : Two w g x y) : Pair w g := ⟨x, y, h⟩
theorem Pair.alloc (h : Pair w g) (o : Obj) : Pair (w.alloc o) g := by
  obtain ⟨x, y, h⟩ := h
  exact ⟨x, y, h.alloc o⟩
theorem Pair.far (h : Pair w g) {p : Addr} (hp : p.block ≠ g) (u : Value) : Pair (w.setCell p u) g := by
  obtain ⟨x, y, h⟩ := h
  exact ⟨x, y, h.far hp u⟩
theorem Pair.drew (h : Pair w g) : Pair w.drew g := by
  obtain ⟨x, y, h⟩ := h
  exact ⟨x, y, two1 h⟩
theorem Pair.drewN (h : Pair w g) (n : Nat) : Pair (w.drewN n) g := by
  obtain ⟨x, y, h⟩ := h
  exact ⟨x, y, twoN h n⟩
theorem Pair.set (h : Pair w g) (u v : Value) : Two ((w.setCell ⟨g, 0, none⟩ u).setCell ⟨g, 1, none⟩ v) g u v := by
  obtain ⟨x, y, h⟩ := h
  exact h.set u v
theorem belowN {B : Nat} {a : World} (h : Below B a w) (n : Nat) : Below B a (w.drewN n) := ⟨h.os, h.tape, h.output, h.size, h.block⟩
end

theorem load_fault (w : World) (g : Nat) (x y : Value) (h : Two w g x y) : (loadVar 28 ⟨g, 0, none⟩).run Tryd.prog w = .ok (.agg #[x, y]) w := by
  obtain ⟨_, h0, h1, _, _⟩ := h
  simp [go_sem, h0, h1]
theorem load_int (w : World) (g : Nat) (x : Value) (h : One w g x) : (loadVar 3 ⟨g, 0, none⟩).run Tryd.prog w = .ok x w := by
  obtain ⟨_, h0, _⟩ := h
  simp [go_sem, h0]

section
variable {fn : Func} {R : Ending → World → Prop} {tmps : Array Value} {W : World} {s t : Tmp} {g g2 : Nat} {x y z : Value}
theorem post_fault (hres : fn.results = #[.cell s 28]) (ht : tmps.getD s undef = .pointer (some ⟨g, 0, none⟩)) (hT : Two W g x y) (hR : R (.returned (.agg #[x, y])) W) :
    bodyPost Tryd.prog fn R .ret { tmps := tmps, defers := [] } W := by
  refine bodyPost_ret (v := .agg #[x, y]) ?_ rfl hR
  simp only [results, hres]
  rw [Array.getD_eq_getD_getElem?] at ht
  simp [go_sem, ht, hT.fst, hT.snd]
theorem post_with_fault (hres : fn.results = #[.tmp t, .cell s 28]) (ht : tmps.getD s undef = .pointer (some ⟨g, 0, none⟩)) (hT : Two W g x y) (hR : R (.returned (.tuple #[tmps.getD t undef, .agg #[x, y]])) W) :
    bodyPost Tryd.prog fn R .ret { tmps := tmps, defers := [] } W := by
  refine bodyPost_ret (v := .tuple #[tmps.getD t undef, .agg #[x, y]]) ?_ rfl hR
  simp only [results, hres]
  rw [Array.getD_eq_getD_getElem?] at ht
  simp [go_sem, ht, hT.fst, hT.snd]
theorem post_int_fault (hres : fn.results = #[.cell t 3, .cell s 28]) (hz : tmps.getD t undef = .pointer (some ⟨g2, 0, none⟩)) (ht : tmps.getD s undef = .pointer (some ⟨g, 0, none⟩)) (hO : One W g2 z) (hT : Two W g x y)
    (hR : R (.returned (.tuple #[z, .agg #[x, y]])) W) : bodyPost Tryd.prog fn R .ret { tmps := tmps, defers := [] } W := by
  refine bodyPost_ret (v := .tuple #[z, .agg #[x, y]]) ?_ rfl hR
  simp only [results, hres]
  rw [Array.getD_eq_getD_getElem?] at ht hz
  simp [go_sem, hz, ht, hT.fst, hT.snd, hO.fst]
end
def ix (xs : List Int) (k : Nat) : Int := xs.getD k 0
/-- The numbers xs stand in the slice at A, below block B. -/
def Nums (w : World) (B : Nat) (A : Option Addr) (xs : List Int) : Prop :=
  0 < xs.length → ∃ b o, A = some ⟨b, o, none⟩ ∧ b < B ∧ ∀ k, k < xs.length → w.cell? ⟨b, o + k, none⟩ = some (.int .i64 (ix xs k))
section
variable {w w' : World} {B B' : Nat} {A : Option Addr} {xs : List Int}
theorem Nums.to (h : Nums w B A xs) (hb : Below B w w') (hB : B ≤ B') : Nums w' B' A xs := by
  intro h0
  obtain ⟨b, o, hA, hlt, hc⟩ := h h0
  exact ⟨b, o, hA, by omega, fun k hk => (hb.cell (p := ⟨b, o + k, none⟩) hlt).trans (hc k hk)⟩
theorem Nums.at_ (h : Nums w B A xs) {k : Nat} (hk : k < xs.length) : ∃ b o, A = some ⟨b, o, none⟩ ∧ b < B ∧ w.cell? ⟨b, o + k, none⟩ = some (.int .i64 (ix xs k)) := by
  obtain ⟨b, o, hA, hlt, hc⟩ := h (by omega)
  exact ⟨b, o, hA, hlt, hc k hk⟩
end

def eqL (xs ys : List Int) : Bool := decide (xs = ys)
theorem eqL_len {xs ys : List Int} (h : xs.length ≠ ys.length) : eqL xs ys = false := by
  unfold eqL
  exact decide_eq_false (fun e => h (by rw [e]))
theorem eqL_bad {xs ys : List Int} {k : Nat} (h : ix xs k ≠ ix ys k) : eqL xs ys = false := by
  unfold eqL
  exact decide_eq_false (fun e => h (by rw [e]))
theorem eqL_good {xs ys : List Int} (hl : xs.length = ys.length) (h : ∀ j, j < xs.length → ix xs j = ix ys j) : eqL xs ys = true := by
  unfold eqL
  refine decide_eq_true (List.ext_getElem hl (fun i h1 h2 => ?_))
  have := h i h1
  simpa [ix, List.getD, h1, h2] using this
theorem ix_step {xs ys : List Int} {k : Nat} (h : ∀ j, j < k → ix xs j = ix ys j) (hk : ix xs k = ix ys k) : ∀ j, j < k + 1 → ix xs j = ix ys j := by
  intro j hj
  by_cases e : j = k
  · subst e; exact hk
  · exact h j (by omega)

abbrev faultV (f : Int × Int) : Value := .agg #[.int .i64 f.1, .int .i64 f.2]
/-- The first index whose code is not 0, with its code. -/
def firstF (code pos : Nat → Int) (n : Nat) : Int × Int := match (List.range n).find? (fun i => code i != 0) with | some i => (code i, pos i) | none => (0, 0)
def natPos (i : Nat) : Int := i
theorem firstF_hit {code pos : Nat → Int} {n k : Nat} (hk : k < n) (h : code k ≠ 0) (hj : ∀ j, j < k → code j = 0) : firstF code pos n = (code k, pos k) := by
  unfold firstF
  have : (List.range n).find? (fun i => code i != 0) = some k := by
    rw [List.find?_range_eq_some]
    refine ⟨by simpa using h, by simpa using hk, fun j hjk => ?_⟩
    simp [hj j hjk]
  rw [this]
theorem firstF_miss {code pos : Nat → Int} {n : Nat} (hj : ∀ j, j < n → code j = 0) : firstF code pos n = (0, 0) := by
  unfold firstF
  have : (List.range n).find? (fun i => code i != 0) = none := by
    rw [List.find?_eq_none]
    intro j h
    simp [hj j (by simpa using h)]
  rw [this]
theorem code_step {code : Nat → Int} {k : Nat} (h : ∀ j, j < k → code j = 0) (hk : code k = 0) : ∀ j, j < k + 1 → code j = 0 := by
  intro j hj
  by_cases e : j = k
  · subst e; exact hk
  · exact h j (by omega)
def byt (s : ByteArray) (k : Nat) : Int := ((s.data.toList.getD k 0).toNat : Int)
theorem byt_bd (s : ByteArray) (k : Nat) : 0 ≤ byt s k ∧ byt s k ≤ 255 := by
  unfold byt
  have := (s.data.toList.getD k 0).toNat_lt
  omega
theorem byt_eq (s : ByteArray) (k : Nat) (h : k < s.size) : ((s[k].toNat : Nat) : Int) = byt s k := by
  unfold byt
  simp [List.getD, ByteArray.getElem_eq_getElem_data]
  rw [Array.getElem?_eq_getElem]
  rfl

theorem grown_of_below {w w' : World} (h : Below w.heap.size w w') (row : Option Nat) : w.grownBy w' row := ⟨h.os, h.tape, h.output, h.size, fun i hi _ => h.block i hi⟩
theorem own_to {w w' : World} {base : Nat} {e : TypeId} {size : Nat} {v : Value} {n : Nat} {xs : List Value} (h : w.ownsRow base e size v n xs) (hb : Below w.heap.size w w') : w'.ownsRow base e size v n xs :=
  h.kept (grown_of_below hb none) (by cases v.ownBlock <;> simp)
/-- Some slice that holds xs. -/
def SliceOf (w : World) (v : Value) (xs : List Int) : Prop := ∃ A c, v = .slice A xs.length c ∧ Nums w w.heap.size A xs ∧ xs.length ≤ c ∧ c ≤ maxLen
theorem sliceOf_own {w : World} {base : Nat} {e : TypeId} {v : Value} {xs : List Int} (h : w.ownsRow base e 1 v xs.length (xs.map (Value.int .i64))) : SliceOf w v xs := by
  rcases h.2 with ⟨rfl, h0⟩ | ⟨g, cap, cur, rfl, hg, hh, hn, hcap, hcs, hx⟩
  · exact ⟨none, 0, by rw [h0], fun h => by omega, by omega, by simp [maxLen]⟩
  · refine ⟨_, cap, rfl, fun h0 => ⟨g, 0, rfl, (Array.getElem?_eq_some_iff.1 hh).1, fun k hk => ?_⟩, hn, hcap⟩
    have := h.cells (g := g) rfl k (.int .i64 (ix xs k)) (by
      rw [List.getElem?_map, List.getElem?_eq_getElem hk]
      simp [ix, List.getD, hk])
    simpa [Addr.add_lit] using this
theorem info_int : (Tryd.prog.info? 3).map (fun i => (i.zero, i.size, i.bytes)) = some (some (.int .i64 0), 1, 8) := by kernel_rfl

theorem own_one (w : World) (x : Value) : (w.alloc (.cells #[x] 3)).ownsRow w.heap.size 3 1 (.slice (some ⟨w.heap.size, 0, none⟩) 1 1) 1 [x] := by
  have h := World.ownsRow_lit (base := w.heap.size) (e := 3) (size := 1) w #[x] 1 (Nat.le_refl _) (by simp [maxLen]) rfl
  simpa using h
theorem nums_cells {w : World} {B : Nat} {b o : Nat} {xs : List Int} (h : ∀ k, k < xs.length → w.cell? ⟨b, o + k, none⟩ = some (.int .i64 (ix xs k))) : ∀ (j : Nat) (u : Value), (xs.map (Value.int .i64))[j]? = some u → w.cell? ((⟨b, o, none⟩ : Addr).add j) = some u := by
  intro j u hu
  rw [List.getElem?_map] at hu
  have hj : j < xs.length := by
    rcases Nat.lt_or_ge j xs.length with h | h
    · exact h
    · rw [List.getElem?_eq_none h] at hu; cases hu
  rw [List.getElem?_eq_getElem hj] at hu
  simp at hu
  rw [Addr.add_lit, h j hj, ← hu]
  simp [ix, List.getD, hj]

set_option maxHeartbeats 400000 in
theorem at_any (x a : Int) (w : World) :
    Calls Tryd.prog 18 #[.int .i64 x, .int .i64 a] w fun e w' => e = .returned (.agg #[.int .i64 x, .int .i64 a]) ∧ Below w.heap.size w w' := by
  go_enter Tryd.func18, Tryd.ntmps18
  go_wp2
  go_returns
  exact ⟨rfl, by go_grown⟩

def inB (x a b : Int) : Bool := decide (a ≤ x ∧ x ≤ b)

set_option maxHeartbeats 400000 in
theorem in_any (x a b : Int) (w : World) :
    Calls Tryd.prog 29 #[.int .i64 x, .int .i64 a, .int .i64 b] w fun e w' => e = .returned (.bool (inB x a b)) ∧ w = w' := by
  by_cases h1 : a ≤ x <;> by_cases h2 : x ≤ b <;>
  · go_enter Tryd.func29, Tryd.ntmps29
    go_wp2
    go_ret
    exact ⟨by simp [inB, h1, h2], rfl⟩

set_option maxHeartbeats 1000000 in
theorem ints_any (A A' : Option Addr) (c c' : Nat) (xs ys : List Int) (w : World) (hX : Nums w w.heap.size A xs) (hY : Nums w w.heap.size A' ys) (hx : xs.length ≤ maxLen) (hy : ys.length ≤ maxLen) :
    Calls Tryd.prog 16 #[.slice A xs.length c, .slice A' ys.length c'] w fun e w' => e = .returned (.bool (eqL xs ys)) ∧ Below w.heap.size w w' := by
  unfold maxLen at hx hy
  have HX := Lib.hid hX
  have HY := Lib.hid hY
  clear hX hY
  by_cases hl : xs.length = ys.length
  · have HL := Lib.hid hl
    have hb : ((xs.length : Int) != ys.length) = false := by simp [hl]
    have hb2 : ((ys.length : Int) != ys.length) = false := by simp
    clear hl
    go_enter Tryd.func16, Tryd.ntmps16
    go_wp2
    go_loopw [5] (fun i wr => ∃ k : Nat, k ≤ xs.length ∧ i = .int .i64 k ∧ Below w.heap.size w wr ∧ ∀ j, j < k → ix xs j = ix ys j) (fun i _ => xs.length - (intOf i).toNat)
    case atStart => exact ⟨0, by omega, rfl, Below.refl _ _, by omega⟩
    case round =>
      obtain ⟨k, hk, rfl, hbw, hj⟩ := hrel
      have HJ := Lib.hid hj
      clear hj
      have HB := Lib.hid hbw
      clear hbw
      by_cases hlt : k < xs.length
      · obtain ⟨b1, o1, rfl, _, hs1⟩ := (HX.out.to HB.out (Nat.le_refl _)).at_ hlt
        have hlt2 : k < ys.length := by have := HL.out; omega
        obtain ⟨b2, o2, rfl, _, hs2⟩ := (HY.out.to HB.out (Nat.le_refl _)).at_ hlt2
        have hi2 : (k : Int) < ys.length := by omega
        by_cases he : ix xs k = ix ys k
        · have HQ := Lib.hid he
          have hq : (ix xs k != ix ys k) = false := by simpa using he
          clear he
          go_wp2
          go_quiet (fail)
          go_wp2
          go_roundw
          case rel => exact ⟨k + 1, by omega, by go_num, belowN HB.out _, ix_step HJ.out HQ.out⟩
          case measure => simp [intOf]; omega
        · have HQ := Lib.hid he
          have hq : (ix xs k != ix ys k) = true := by simpa using he
          clear he
          go_wp2
          go_quiet (fail)
          go_wp2
          go_ret
          exact ⟨ret_bool (eqL_bad HQ.out).symm, belowN HB.out _⟩
      · have hge : ¬ ((k : Int) < xs.length) := by omega
        go_wp2
        go_ret
        exact ⟨ret_bool (eqL_good HL.out (fun j hj => HJ.out j (by omega))).symm, HB.out⟩
  · have HL := Lib.hid (eqL_len hl)
    have hb : ((xs.length : Int) != ys.length) = true := by simp; omega
    clear hl
    go_enter Tryd.func16, Tryd.ntmps16
    go_wp2
    go_ret
    exact ⟨ret_bool HL.out.symm, Below.refl _ _⟩

end Go.Proofs.YtiaobanloakplaaDoor
