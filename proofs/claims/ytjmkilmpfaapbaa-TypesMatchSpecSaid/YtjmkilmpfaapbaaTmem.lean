/- Lists of named entries (a string and a number) in memory: types and objects. -/
import Derived.Test.YtjmkilmpfaapbaaTname
namespace Go.Proofs.Ytjmkilmpfaapbaa
open Go.RowKit
set_option linter.unusedSimpArgs false
set_option linter.unusedVariables false
set_option maxRecDepth 100000

abbrev Ent := ByteArray × Int
def nm (ts : List Ent) (k : Nat) : ByteArray := (ts.getD k (ByteArray.empty, 0)).1
def pr (ts : List Ent) (k : Nat) : Int := (ts.getD k (ByteArray.empty, 0)).2

/-- The slice at A holds the entries ts, below block B. -/
def Ents (w : World) (B : Nat) (A : Option Addr) (ts : List Ent) : Prop :=
  (∀ k, (nm ts k).size ≤ maxLen) ∧ (0 < ts.length → ∃ b o, A = some ⟨b, o, none⟩ ∧ b < B ∧
    ∀ k, k < ts.length → w.cell? ⟨b, o + k * 2, none⟩ = some (.string (nm ts k)) ∧ w.cell? ⟨b, o + k * 2 + 1, none⟩ = some (.int .i64 (pr ts k)))

section
variable {w w' : World} {B B' : Nat} {A : Option Addr} {ts : List Ent}
theorem Ents.below (h : Ents w B A ts) (hb : Below B w w') : Ents w' B A ts := by
  refine ⟨h.1, fun h0 => ?_⟩
  obtain ⟨b, o, hA, hlt, hc⟩ := h.2 h0
  refine ⟨b, o, hA, hlt, fun k hk => ?_⟩
  rw [hb.cell (p := ⟨b, o + k * 2, none⟩) hlt, hb.cell (p := ⟨b, o + k * 2 + 1, none⟩) hlt]
  exact hc k hk
theorem Ents.more (h : Ents w B A ts) (hB : B ≤ B') : Ents w B' A ts := by
  refine ⟨h.1, fun h0 => ?_⟩
  obtain ⟨b, o, hA, hlt, hc⟩ := h.2 h0
  exact ⟨b, o, hA, by omega, hc⟩
theorem nm_take {k : Nat} (j : Nat) (hj : j < k) : nm (ts.take k) j = nm ts j := by
  simp [nm, List.getD, List.getElem?_take, hj]
theorem pr_take {k : Nat} (j : Nat) (hj : j < k) : pr (ts.take k) j = pr ts j := by
  simp [pr, List.getD, List.getElem?_take, hj]
theorem Ents.take (h : Ents w B A ts) (k : Nat) : Ents w B A (ts.take k) := by
  refine ⟨fun j => ?_, fun h0 => ?_⟩
  · by_cases hj : j < k
    · rw [nm_take j hj]; exact h.1 j
    · simp [nm, List.getD, List.getElem?_take, hj, maxLen]
  · obtain ⟨b, o, hA, hlt, hc⟩ := h.2 (by simp at h0; omega)
    refine ⟨b, o, hA, hlt, fun j hj => ?_⟩
    rw [List.length_take] at hj
    rw [nm_take j (by omega), pr_take j (by omega)]
    exact hc j (by omega)
theorem Ents.at_ (h : Ents w B A ts) {k : Nat} (hk : k < ts.length) : ∃ b o, A = some ⟨b, o, none⟩ ∧ b < B ∧ w.cell? ⟨b, o + k * 2, none⟩ = some (.string (nm ts k)) ∧ w.cell? ⟨b, o + k * 2 + 1, none⟩ = some (.int .i64 (pr ts k)) ∧ (nm ts k).size ≤ maxLen := by
  obtain ⟨b, o, hA, hlt, hc⟩ := h.2 (by omega)
  exact ⟨b, o, hA, hlt, (hc k hk).1, (hc k hk).2, h.1 k⟩
end

/-- Block g begins with the two cells x, y, and they may be written. -/
structure Two (w : World) (g : Nat) (x y : Value) : Prop where
  lt : g < w.heap.size
  fst : w.cell? ⟨g, 0, none⟩ = some x
  snd : w.cell? ⟨g, 1, none⟩ = some y
  ffst : w.frozen? ⟨g, 0, none⟩ = false
  fsnd : w.frozen? ⟨g, 1, none⟩ = false
/-- Block g begins with the cell x, and it may be written. -/
structure One (w : World) (g : Nat) (x : Value) : Prop where
  lt : g < w.heap.size
  fst : w.cell? ⟨g, 0, none⟩ = some x
  ffst : w.frozen? ⟨g, 0, none⟩ = false
theorem Two.to {w w' : World} {g B : Nat} {x y : Value} (h : Two w g x y) (hb : Below B w w') (hg : g < B) : Two w' g x y :=
  ⟨Nat.lt_of_lt_of_le h.lt hb.size, (hb.cell (p := ⟨g, 0, none⟩) hg).trans h.fst, (hb.cell (p := ⟨g, 1, none⟩) hg).trans h.snd,
    (hb.frozen (p := ⟨g, 0, none⟩) hg).trans h.ffst, (hb.frozen (p := ⟨g, 1, none⟩) hg).trans h.fsnd⟩
theorem Two.set {w : World} {g : Nat} {x y : Value} (h : Two w g x y) (u v : Value) : Two ((w.setCell ⟨g, 0, none⟩ u).setCell ⟨g, 1, none⟩ v) g u v := by
  refine ⟨by simpa using h.lt, ?_, ?_, ?_, ?_⟩
  · rw [World.cell?_setCell_other _ _ _ _ (by simp)]
    exact World.cell?_setCell_same' _ _ _ (by rw [h.fst]; rfl)
  · exact World.cell?_setCell_same' _ _ _ (by rw [World.cell?_setCell_other _ _ _ _ (by simp), h.snd]; rfl)
  · rw [World.frozen?_setCell, World.frozen?_setCell]; exact h.ffst
  · rw [World.frozen?_setCell, World.frozen?_setCell]; exact h.fsnd
theorem Two.far {w : World} {g : Nat} {x y : Value} (h : Two w g x y) {p : Addr} (hp : p.block ≠ g) (u : Value) : Two (w.setCell p u) g x y := by
  refine ⟨by simpa using h.lt, ?_, ?_, ?_, ?_⟩
  · rw [World.cell?_setCell_other _ _ _ _ (by rintro rfl; exact hp rfl)]; exact h.fst
  · rw [World.cell?_setCell_other _ _ _ _ (by rintro rfl; exact hp rfl)]; exact h.snd
  · rw [World.frozen?_setCell]; exact h.ffst
  · rw [World.frozen?_setCell]; exact h.fsnd
theorem One.far {w : World} {g : Nat} {x : Value} (h : One w g x) {p : Addr} (hp : p.block ≠ g) (u : Value) : One (w.setCell p u) g x := by
  refine ⟨by simpa using h.lt, ?_, ?_⟩
  · rw [World.cell?_setCell_other _ _ _ _ (by rintro rfl; exact hp rfl)]; exact h.fst
  · rw [World.frozen?_setCell]; exact h.ffst
theorem One.set {w : World} {g : Nat} {x : Value} (h : One w g x) (u : Value) : One (w.setCell ⟨g, 0, none⟩ u) g u := by
  refine ⟨by simpa using h.lt, World.cell?_setCell_same' _ _ _ (by rw [h.fst]; rfl), ?_⟩
  rw [World.frozen?_setCell]; exact h.ffst
theorem One.to {w w' : World} {g B : Nat} {x : Value} (h : One w g x) (hb : Below B w w') (hg : g < B) : One w' g x :=
  ⟨Nat.lt_of_lt_of_le h.lt hb.size, (hb.cell (p := ⟨g, 0, none⟩) hg).trans h.fst, (hb.frozen (p := ⟨g, 0, none⟩) hg).trans h.ffst⟩
theorem Ents.to {w w' : World} {B B' : Nat} {A : Option Addr} {ts : List Ent} (h : Ents w B A ts) (hb : Below B w w') (hB : B ≤ B') : Ents w' B' A ts := (h.below hb).more hB

/-- Two strings are equal. -/
def eqB (s t : ByteArray) : Bool := s.toList == t.toList
theorem eqB_iff (s t : ByteArray) : eqB s t = true ↔ s = t := by
  unfold eqB
  rw [beq_iff_eq, ByteArray.toList_eq, ByteArray.toList_eq]
  constructor
  · intro h
    cases s; cases t
    simp at h
    simp [h]
  · rintro rfl; rfl

/-- The first entry with this name, or -1. -/
def idxN (ts : List Ent) (n0 : ByteArray) : Int := match (List.range ts.length).find? (fun j => eqB (nm ts j) n0) with | some k => (k : Int) | none => -1
def hasN (ts : List Ent) (n0 : ByteArray) : Bool := (List.range ts.length).any (fun j => eqB (nm ts j) n0)
theorem idxN_has (ts : List Ent) (n0 : ByteArray) : decide (0 ≤ idxN ts n0) = hasN ts n0 := by
  unfold idxN hasN
  cases h : (List.range ts.length).find? (fun j => eqB (nm ts j) n0) with
  | none =>
    rw [List.find?_eq_none] at h
    symm
    simp only [show decide ((0 : Int) ≤ -1) = false by decide]
    rw [List.any_eq_false]
    exact h
  | some k =>
    have hm := List.mem_of_find?_eq_some h
    have hp := List.find?_some h
    simp only [show decide ((0 : Int) ≤ (k : Int)) = true by simp]
    symm
    rw [List.any_eq_true]
    exact ⟨k, hm, hp⟩
theorem idxN_hit {ts : List Ent} {n0 : ByteArray} {k : Nat} (hk : k < ts.length) (h : eqB (nm ts k) n0 = true) (hj : ∀ j, j < k → eqB (nm ts j) n0 = false) : idxN ts n0 = k := by
  unfold idxN
  have : (List.range ts.length).find? (fun j => eqB (nm ts j) n0) = some k := by
    rw [List.find?_range_eq_some]
    refine ⟨h, by simpa using hk, fun j hjk => ?_⟩
    simp [hj j hjk]
  rw [this]
theorem idxN_miss {ts : List Ent} {n0 : ByteArray} (hj : ∀ j, j < ts.length → eqB (nm ts j) n0 = false) : idxN ts n0 = -1 := by
  unfold idxN
  have : (List.range ts.length).find? (fun j => eqB (nm ts j) n0) = none := by
    rw [List.find?_eq_none]
    intro j h
    simp [hj j (by simpa using h)]
  rw [this]

theorem idx_step {ts : List Ent} {n0 : ByteArray} {k : Nat} (h : ∀ j, j < k → eqB (nm ts j) n0 = false) (hk : eqB (nm ts k) n0 = false) : ∀ j, j < k + 1 → eqB (nm ts j) n0 = false := by
  intro j hj
  by_cases e : j = k
  · subst e; exact hk
  · exact h j (by omega)
theorem ret_int {k : IntKind} {a b : Int} (h : a = b) : Ending.returned (.int k a) = Ending.returned (.int k b) := by rw [h]

set_option maxHeartbeats 400000 in
theorem sameT_any (s n0 : ByteArray) (p : Int) (bx : Nat) (w : World) (hb : bx < w.heap.size) (hc : w.cell? ⟨bx, 0, none⟩ = some (.string n0)) :
    Calls Try.prog 32 #[.agg #[.string s, .int .i64 p], .pointer (some ⟨bx, 0, none⟩)] w fun e w' => e = .returned (.bool (eqB s n0)) ∧ Below w.heap.size w w' := by
  go_enter Try.func32, Try.ntmps32
  go_wp2
  go_ret
  exact ⟨rfl, by go_grown⟩

set_option maxHeartbeats 1000000 in
theorem indexT_any (A : Option Addr) (c : Nat) (ts : List Ent) (n0 : ByteArray) (bx : Nat) (w : World) (hE : Ents w w.heap.size A ts) (hn : ts.length ≤ maxLen)
    (hb : bx < w.heap.size) (hc : w.cell? ⟨bx, 0, none⟩ = some (.string n0)) :
    Calls Try.prog 39 #[.slice A ts.length c, .func (.func 32) #[] #[.pointer (some ⟨bx, 0, none⟩)]] w fun e w' => e = .returned (.int .i64 (idxN ts n0)) ∧ Below w.heap.size w w' := by
  unfold maxLen at hn
  have HE := Lib.hid hE
  clear hE
  have HC := Lib.hid hc
  clear hc
  go_enter Try.func39, Try.ntmps39
  go_wp2
  go_loopw [8] (fun i wr => ∃ k : Nat, k ≤ ts.length ∧ i = .int .i64 k ∧ Below w.heap.size w wr ∧ ∀ j, j < k → eqB (nm ts j) n0 = false) (fun i _ => ts.length - (intOf i).toNat)
  case atStart => exact ⟨0, by omega, rfl, Below.refl _ _, by omega⟩
  case round =>
    obtain ⟨k, hk, rfl, hbw, hj⟩ := hrel
    have HJ := Lib.hid hj
    clear hj
    have HB := Lib.hid hbw
    clear hbw
    by_cases hlt : k < ts.length
    · obtain ⟨b, o, rfl, hbl, hs, hp, hl⟩ := (HE.out.below HB.out).at_ hlt
      have hc : wr.cell? ⟨bx, 0, none⟩ = some (.string n0) := (HB.out.cell (p := ⟨bx, 0, none⟩) hb).trans HC.out
      have hb2 : bx < wr.heap.size := by have := HB.out.size; omega
      cases he : eqB (nm ts k) n0
      · have H1 := Lib.hid he
        go_wp2_with (go_at_call 32; refine (sameT_any _ _ _ _ _ hb2 hc).mono ?_; rintro e w' ⟨rfl, hbw⟩)
        go_roundw
        case rel => exact ⟨k + 1, by omega, by go_num, HB.out.trans (hbw.mono HB.out.size), idx_step HJ.out H1.out⟩
        case measure => simp [intOf]; omega
      · have H1 := Lib.hid he
        go_wp2_with (go_at_call 32; refine (sameT_any _ _ _ _ _ hb2 hc).mono ?_; rintro e w' ⟨rfl, hbw⟩)
        go_ret
        exact ⟨ret_int (idxN_hit hlt H1.out HJ.out).symm, HB.out.trans (hbw.mono HB.out.size)⟩
    · have hge : ¬ ((k : Int) < ts.length) := by omega
      go_wp2
      go_ret
      exact ⟨ret_int (idxN_miss (fun j hj => HJ.out j (by omega))).symm, HB.out⟩

set_option maxHeartbeats 400000 in
theorem containsT_any (A : Option Addr) (c : Nat) (ts : List Ent) (n0 : ByteArray) (bx : Nat) (w : World) (hE : Ents w w.heap.size A ts) (hn : ts.length ≤ maxLen)
    (hb : bx < w.heap.size) (hc : w.cell? ⟨bx, 0, none⟩ = some (.string n0)) :
    Calls Try.prog 34 #[.slice A ts.length c, .func (.func 32) #[] #[.pointer (some ⟨bx, 0, none⟩)]] w fun e w' => e = .returned (.bool (hasN ts n0)) ∧ Below w.heap.size w w' := by
  have HR := indexT_any A c ts n0 bx w hE hn hb hc
  have hI := idxN_has ts n0
  clear hE hc
  go_enter Try.func34, Try.ntmps34
  go_wp2_with (go_at_call 39; refine HR.mono ?_; rintro e w' ⟨rfl, hbw⟩)
  go_ret
  exact ⟨rfl, hbw⟩

end Go.Proofs.Ytjmkilmpfaapbaa
