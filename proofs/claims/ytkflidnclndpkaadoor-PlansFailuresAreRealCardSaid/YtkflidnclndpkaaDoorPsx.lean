/- What the functions of package plans answer (as conditions), and the closed example of their laws. -/
import Derived.Test.YtkflidnclndpkaaDoorPex
import Derived.Deep.CutRange
import Derived.Deep.RegionHeld3
import Derived.Deep.CutBlock
import Derived.Deep.AppendLies
import Derived.OneCell
namespace Go.Proofs.YtkflidnclndpkaaDoor
open Go.RowKit
set_option linter.unusedSimpArgs false
set_option linter.unusedVariables false
set_option maxRecDepth 100000

def flI (x : Tsk) (plan : List Int) : Int := if (plF x plan).1 = 0 then failF x x.n.toNat plan else 0
def rdL (x : Tsk) (plan : List Int) : List Int := if (soF x plan).1 = 0 then redL x x.n.toNat plan else []
def mnB (x : Tsk) (plan : List Int) : Bool := decide ((mnF x plan).1 = 0) && minL x x.n.toNat plan
/-- Failure answers as the document says. -/
def FlC : Prop := ∀ (x : Tsk) (a : Option Addr) (c : Nat) (plan : List Int) (w : World), TskIn w w.heap.size x → Lst w w.heap.size a c plan → (a = none → c = 0) → TabIn w →
  Calls Tryd.prog 9 #[.agg #[.int .i64 x.n, .slice x.ai x.init.length x.ci, .slice x.ag x.goal.length x.cg, .slice x.ao x.ops.length x.co], .slice a plan.length c] w fun e w' => e = .returned (.tuple #[.int .i64 (flI x plan), faultV (plF x plan)]) ∧ Below w.heap.size w w'
def RdPost (w : World) (f : Int × Int) (l : List Int) (e : Ending) (w' : World) : Prop := ∃ a c, e = .returned (.tuple #[.slice a l.length c, faultV f]) ∧ Lst w' w'.heap.size a c l ∧ (a = none → c = 0) ∧ Below w.heap.size w w'
/-- Reduce answers as the document says. -/
def RdC : Prop := ∀ (x : Tsk) (a : Option Addr) (c : Nat) (plan : List Int) (w : World), TskIn w w.heap.size x → Lst w w.heap.size a c plan → (a = none → c = 0) → TabIn w →
  Calls Tryd.prog 13 #[.agg #[.int .i64 x.n, .slice x.ai x.init.length x.ci, .slice x.ag x.goal.length x.cg, .slice x.ao x.ops.length x.co], .slice a plan.length c] w (RdPost w (soF x plan) (rdL x plan))
/-- Minimal answers as the document says. -/
def MnC : Prop := ∀ (x : Tsk) (a : Option Addr) (c : Nat) (plan : List Int) (w : World), TskIn w w.heap.size x → Lst w w.heap.size a c plan → (a = none → c = 0) → TabIn w →
  Calls Tryd.prog 17 #[.agg #[.int .i64 x.n, .slice x.ai x.init.length x.ci, .slice x.ag x.goal.length x.cg, .slice x.ao x.ops.length x.co], .slice a plan.length c] w fun e w' => e = .returned (.tuple #[.bool (mnB x plan), faultV (mnF x plan)]) ∧ Below w.heap.size w w'

def exOps3 : List Opr := [⟨[0], [1], [0], 2⟩, ⟨[1], [2], [1], 3⟩, ⟨[0], [0], [], 1⟩]
/-- The task of the closed example. -/
structure IsEx3 (x : Tsk) : Prop where
  n : x.n = 3
  init : x.init = [0]
  goal : x.goal = [2]
  ops : x.ops = exOps3
section
variable {x : Tsk}
theorem IsEx3.eq (h : IsEx3 x) : ∃ ai ag ao ci cg co, x = ⟨3, [0], [2], exOps3, ai, ag, ao, ci, cg, co⟩ := by
  obtain ⟨n, init, goal, ops, ai, ag, ao, ci, cg, co⟩ := x
  obtain ⟨h1, h2, h3, h4⟩ := h
  simp only at h1 h2 h3 h4
  subst h1 h2 h3 h4
  exact ⟨ai, ag, ao, ci, cg, co, rfl⟩
theorem e3_1 (h : IsEx3 x) : plF x [2, 1] = (0, 0) ∧ flI x [2, 1] = 1 := by
  obtain ⟨ai, ag, ao, ci, cg, co, rfl⟩ := h.eq
  exact ⟨rfl, by kernel_rfl⟩
theorem e3_2 (h : IsEx3 x) : soF x [2, 0, 1] = (0, 0) ∧ rdL x [2, 0, 1] = [0, 1] := by
  obtain ⟨ai, ag, ao, ci, cg, co, rfl⟩ := h.eq
  exact ⟨rfl, by kernel_rfl⟩
theorem e3_3 (h : IsEx3 x) : mnF x [0, 1] = (0, 0) ∧ mnB x [0, 1] = true := by
  obtain ⟨ai, ag, ao, ci, cg, co, rfl⟩ := h.eq
  exact ⟨rfl, by kernel_rfl⟩
theorem e3_4 (h : IsEx3 x) : mnF x [2, 0, 1] = (0, 0) ∧ mnB x [2, 0, 1] = false := by
  obtain ⟨ai, ag, ao, ci, cg, co, rfl⟩ := h.eq
  refine ⟨rfl, ?_⟩
  generalize hx : (⟨3, [0], [2], exOps3, ai, ag, ao, ci, cg, co⟩ : Tsk) = x
  have h1 : solB x x.n.toNat x.init [0, 1] = true := by subst hx; rfl
  cases hm : minL x x.n.toNat [2, 0, 1]
  · unfold mnB
    rw [hm, Bool.and_false]
  · have := min_no hm (sub := [0, 1]) (List.Sublist.cons _ (List.Sublist.refl _)) (by simp)
    rw [h1] at this
    cases this
theorem e3_5 (h : IsEx3 x) : soF x [] = (11, -8) ∧ rdL x [] = [] := by
  obtain ⟨ai, ag, ao, ci, cg, co, rfl⟩ := h.eq
  exact ⟨rfl, rfl⟩
end
theorem lst_new3 (w : World) (a b d : Int) : Lst (w.alloc (.cells #[.int .i64 a, .int .i64 b, .int .i64 d] 3)) (w.alloc (.cells #[.int .i64 a, .int .i64 b, .int .i64 d] 3)).heap.size (some ⟨w.heap.size, 0, none⟩) 3 [a, b, d] := by
  refine ⟨fun _ => ⟨w.heap.size, 0, rfl, by simp, fun k hk => ?_⟩, by simp, by simp [maxLen]⟩
  match k, hk with
  | 0, _ => simp [ix]
  | 1, _ => simp [ix]
  | 2, _ => simp [ix]
section
variable {x : Tsk} {w : World}
theorem fl_ex (hF : FlC) (hx : IsEx3 x) {g : Nat} (hg : g = w.heap.size) (ht : TskIn w w.heap.size x) (hT : TabIn w) :
    Calls Tryd.prog 9 #[.agg #[.int .i64 x.n, .slice x.ai x.init.length x.ci, .slice x.ag x.goal.length x.cg, .slice x.ao x.ops.length x.co], .slice (some ⟨g, 0, none⟩) 2 2] (w.alloc (.cells #[.int .i64 2, .int .i64 1] 3)) fun e w' => e = .returned (.tuple #[.int .i64 1, .agg #[.int .i64 0, .int .i64 0]]) ∧ Below w.heap.size w w' := by
  subst hg
  have hb : Below w.heap.size w (w.alloc (.cells #[.int .i64 2, .int .i64 1] 3)) := by go_grown
  have h := hF x _ 2 [2, 1] _ (ht.to hb hb.size) (lst_new2 w 2 1) (by intro h; cases h) (hT.to hb (Nat.le_refl _))
  rw [(e3_1 hx).1, (e3_1 hx).2] at h
  exact h.mono fun e w' ⟨he, hb2⟩ => ⟨he, hb.trans (hb2.mono hb.size)⟩
theorem rd_ex (hR : RdC) (hx : IsEx3 x) {g : Nat} (hg : g = w.heap.size) (ht : TskIn w w.heap.size x) (hT : TabIn w) :
    Calls Tryd.prog 13 #[.agg #[.int .i64 x.n, .slice x.ai x.init.length x.ci, .slice x.ag x.goal.length x.cg, .slice x.ao x.ops.length x.co], .slice (some ⟨g, 0, none⟩) 3 3] (w.alloc (.cells #[.int .i64 2, .int .i64 0, .int .i64 1] 3)) fun e w' => ∃ a c, e = .returned (.tuple #[.slice a 2 c, .agg #[.int .i64 0, .int .i64 0]]) ∧ Lst w' w'.heap.size a c [0, 1] ∧ Below w.heap.size w w' := by
  subst hg
  have hb : Below w.heap.size w (w.alloc (.cells #[.int .i64 2, .int .i64 0, .int .i64 1] 3)) := by go_grown
  have h := hR x _ 3 [2, 0, 1] _ (ht.to hb hb.size) (lst_new3 w 2 0 1) (by intro h; cases h) (hT.to hb (Nat.le_refl _))
  rw [(e3_2 hx).1, (e3_2 hx).2] at h
  exact h.mono fun e w' ⟨a, c, he, hl, _, hb2⟩ => ⟨a, c, he, hl, hb.trans (hb2.mono hb.size)⟩
theorem mn1_ex (hM : MnC) (hx : IsEx3 x) {g : Nat} (hg : g = w.heap.size) (ht : TskIn w w.heap.size x) (hT : TabIn w) :
    Calls Tryd.prog 17 #[.agg #[.int .i64 x.n, .slice x.ai x.init.length x.ci, .slice x.ag x.goal.length x.cg, .slice x.ao x.ops.length x.co], .slice (some ⟨g, 0, none⟩) 2 2] (w.alloc (.cells #[.int .i64 0, .int .i64 1] 3)) fun e w' => e = .returned (.tuple #[.bool true, .agg #[.int .i64 0, .int .i64 0]]) ∧ Below w.heap.size w w' := by
  subst hg
  have hb : Below w.heap.size w (w.alloc (.cells #[.int .i64 0, .int .i64 1] 3)) := by go_grown
  have h := hM x _ 2 [0, 1] _ (ht.to hb hb.size) (lst_new2 w 0 1) (by intro h; cases h) (hT.to hb (Nat.le_refl _))
  rw [(e3_3 hx).1, (e3_3 hx).2] at h
  exact h.mono fun e w' ⟨he, hb2⟩ => ⟨he, hb.trans (hb2.mono hb.size)⟩
theorem mn2_ex (hM : MnC) (hx : IsEx3 x) {g : Nat} (hg : g = w.heap.size) (ht : TskIn w w.heap.size x) (hT : TabIn w) :
    Calls Tryd.prog 17 #[.agg #[.int .i64 x.n, .slice x.ai x.init.length x.ci, .slice x.ag x.goal.length x.cg, .slice x.ao x.ops.length x.co], .slice (some ⟨g, 0, none⟩) 3 3] (w.alloc (.cells #[.int .i64 2, .int .i64 0, .int .i64 1] 3)) fun e w' => e = .returned (.tuple #[.bool false, .agg #[.int .i64 0, .int .i64 0]]) ∧ Below w.heap.size w w' := by
  subst hg
  have hb : Below w.heap.size w (w.alloc (.cells #[.int .i64 2, .int .i64 0, .int .i64 1] 3)) := by go_grown
  have h := hM x _ 3 [2, 0, 1] _ (ht.to hb hb.size) (lst_new3 w 2 0 1) (by intro h; cases h) (hT.to hb (Nat.le_refl _))
  rw [(e3_4 hx).1, (e3_4 hx).2] at h
  exact h.mono fun e w' ⟨he, hb2⟩ => ⟨he, hb.trans (hb2.mono hb.size)⟩
theorem rd0_ex (hR : RdC) (hx : IsEx3 x) (ht : TskIn w w.heap.size x) (hT : TabIn w) :
    Calls Tryd.prog 13 #[.agg #[.int .i64 x.n, .slice x.ai x.init.length x.ci, .slice x.ag x.goal.length x.cg, .slice x.ao x.ops.length x.co], .slice none 0 0] w fun e w' => ∃ a c, e = .returned (.tuple #[.slice a 0 c, .agg #[.int .i64 11, .int .i64 (-8)]]) ∧ Below w.heap.size w w' := by
  have h := hR x none 0 [] _ ht (lst_nil _ _) (fun _ => rfl) hT
  rw [(e3_5 hx).1, (e3_5 hx).2] at h
  exact h.mono fun e w' ⟨a, c, he, hl, _, hb2⟩ => ⟨a, c, he, hb2⟩
end

theorem info_op : (Tryd.prog.info? 51).map (fun i => (i.zero, i.size, i.bytes)) = some (some (.agg #[.slice none 0 0, .slice none 0 0, .slice none 0 0, .int .i64 0]), 4, 80) := by kernel_rfl
theorem op_cells {W : World} {gg cap B : Nat} {xs : List Value} (h : W.ownsRow B 51 4 (.slice (some ⟨gg, 0, none⟩) 3 cap) 3 xs) (j : Nat) (hj : j < 12) : W.cell? ⟨gg, j, none⟩ = xs[j]? := h.cellAt j (by omega)
theorem op_bd {W : World} {gg cap B : Nat} {xs : List Value} (h : W.ownsRow B 51 4 (.slice (some ⟨gg, 0, none⟩) 3 cap) 3 xs) : gg < W.heap.size ∧ 3 ≤ cap ∧ cap ≤ maxLen := by
  rcases h.2 with ⟨e, _⟩ | ⟨g, c, cur, e, hb, hh, hn, hm, _⟩
  · injection e with e1
    cases e1
  · injection e with e1 e2 e3
    cases e1
    subst e3
    exact ⟨(Array.getElem?_eq_some_iff.1 hh).1, hn, hm⟩
theorem ex3_in {wS W : World} {g S gg cap B : Nat} (hM : Ex2 g wS) (hS : wS.heap.size = S) (hk : ∀ k, k < S → k ≠ g + 1 + 1 + 1 + 1 + 1 + 1 + 1 + 1 + 1 → W.cell? ⟨k, 0, none⟩ = wS.cell? ⟨k, 0, none⟩) (hz : S + 1 + 1 < W.heap.size)
    (d1 : W.cell? ⟨S + 1, 0, none⟩ = some (.int .i64 0)) (d2 : W.cell? ⟨S + 1 + 1, 0, none⟩ = some (.int .i64 0))
    (ho : W.ownsRow B 51 4 (.slice (some ⟨gg, 0, none⟩) 3 cap) 3 ([.slice (some ⟨g + 1 + 1 + 1, 0, none⟩) 1 1, .slice (some ⟨g + 1 + 1 + 1 + 1, 0, none⟩) 1 1, .slice (some ⟨g + 1 + 1 + 1 + 1 + 1, 0, none⟩) 1 1, .int .i64 2, .slice (some ⟨g + 1 + 1 + 1 + 1 + 1 + 1, 0, none⟩) 1 1, .slice (some ⟨g + 1 + 1 + 1 + 1 + 1 + 1 + 1, 0, none⟩) 1 1, .slice (some ⟨g + 1 + 1 + 1 + 1 + 1 + 1 + 1 + 1, 0, none⟩) 1 1, .int .i64 3] ++ [.slice (some ⟨S + 1, 0, none⟩) 1 1, .slice (some ⟨S + 1 + 1, 0, none⟩) 1 1, .slice none 0 0, .int .i64 1])) :
    TskIn W W.heap.size ⟨3, [0], [2], exOps3, (some ⟨g + 1, 0, none⟩), (some ⟨g + 1 + 1, 0, none⟩), some ⟨gg, 0, none⟩, 1, 1, cap⟩ := by
  obtain ⟨hg, hc, hm⟩ := op_bd ho
  have hsz := hM.size
  have l : ∀ {a : Nat} {v : Int}, a < W.heap.size → W.cell? ⟨a, 0, none⟩ = some (.int .i64 v) → Lst W W.heap.size (some ⟨a, 0, none⟩) 1 [v] := fun ha h => lst_cell ha h (by omega) (by simp [maxLen])
  have o : ∀ j, j < 12 → W.cell? ⟨gg, j, none⟩ = _ := op_cells ho
  refine ⟨l (by omega) ((hk _ (by omega) (by omega)).trans hM.c1), l (by omega) ((hk _ (by omega) (by omega)).trans hM.c2), fun _ => ⟨gg, 0, rfl, hg, fun k hk' => ?_⟩, by simpa [exOps3] using hc, hm⟩
  match k, hk' with
  | 0, _ => exact ⟨_, _, _, 1, 1, 1, ⟨o 0 (by omega), o 1 (by omega), o 2 (by omega), o 3 (by omega)⟩, ⟨l (by omega) ((hk _ (by omega) (by omega)).trans hM.c3), l (by omega) ((hk _ (by omega) (by omega)).trans hM.c4), l (by omega) ((hk _ (by omega) (by omega)).trans hM.c5)⟩⟩
  | 1, _ => exact ⟨_, _, _, 1, 1, 1, ⟨o 4 (by omega), o 5 (by omega), o 6 (by omega), o 7 (by omega)⟩, ⟨l (by omega) ((hk _ (by omega) (by omega)).trans hM.c6), l (by omega) ((hk _ (by omega) (by omega)).trans hM.c7), l (by omega) ((hk _ (by omega) (by omega)).trans hM.c8)⟩⟩
  | 2, _ => exact ⟨_, _, none, 1, 1, 0, ⟨o 8 (by omega), o 9 (by omega), o 10 (by omega), o 11 (by omega)⟩, ⟨l (by omega) d1, l (by omega) d2, lst_nil _ _⟩⟩
theorem last7 {P1 P2 P3 P4 P5 P6 Q : Prop} (h : P1 ∧ P2 ∧ P3 ∧ P4 ∧ P5 ∧ P6 ∧ Q) : Q := h.2.2.2.2.2.2
theorem ints_3 {a a2 : Option Addr} {c : Nat} {W : World} (h : Lst W W.heap.size a c [0, 1]) (h2 : Lst W W.heap.size a2 2 [0, 1]) :
    Calls Tryd.prog 14 #[.slice a 2 c, .slice a2 2 2] W fun e w' => e = .returned (.bool true) ∧ Below W.heap.size W w' := by
  have h2 := ints_any a a2 c 2 [0, 1] [0, 1] _ h.nums h2.nums (by simp [maxLen]) (by simp [maxLen])
  exact h2.mono fun e w' ⟨he, hb2⟩ => ⟨he.trans (ret_bool rfl), hb2⟩
theorem sh_box {w wS w6 : World} (hZ : wS.heap.size = w.heap.size + 1 + 1 + 1 + 1 + 1 + 1 + 1 + 1 + 1 + 1) (hg : ((((wS.alloc (.cells #[.int .i64 3, .slice (some ⟨w.heap.size + 1, 0, none⟩) 1 1, .slice (some ⟨w.heap.size + 1 + 1, 0, none⟩) 1 1, .slice (some ⟨w.heap.size + 1 + 1 + 1 + 1 + 1 + 1 + 1 + 1 + 1, 0, none⟩) 2 2] 25)).alloc (.cells #[.int .i64 0] 3)).alloc (.cells #[.int .i64 0] 3)).alloc (.cells #[.slice (some ⟨wS.heap.size + 1, 0, none⟩) 1 1, .slice (some ⟨wS.heap.size + 1 + 1, 0, none⟩) 1 1, .slice none 0 0, .int .i64 1] 51)).grownBy w6 (some (w.heap.size + 1 + 1 + 1 + 1 + 1 + 1 + 1 + 1 + 1))) : w6.cell? ⟨wS.heap.size, 0, none⟩ = some (.int .i64 3) ∧ w6.cell? ⟨wS.heap.size, 1, none⟩ = some (.slice (some ⟨w.heap.size + 1, 0, none⟩) 1 1) ∧ w6.cell? ⟨wS.heap.size, 2, none⟩ = some (.slice (some ⟨w.heap.size + 1 + 1, 0, none⟩) 1 1) ∧ w6.cell? ⟨wS.heap.size, 3, none⟩ = some (.slice (some ⟨w.heap.size + 1 + 1 + 1 + 1 + 1 + 1 + 1 + 1 + 1, 0, none⟩) 2 2) ∧ w6.frozen? ⟨wS.heap.size, 3, none⟩ = false := by
  have h1 : ((((wS.alloc (.cells #[.int .i64 3, .slice (some ⟨w.heap.size + 1, 0, none⟩) 1 1, .slice (some ⟨w.heap.size + 1 + 1, 0, none⟩) 1 1, .slice (some ⟨w.heap.size + 1 + 1 + 1 + 1 + 1 + 1 + 1 + 1 + 1, 0, none⟩) 2 2] 25)).alloc (.cells #[.int .i64 0] 3)).alloc (.cells #[.int .i64 0] 3)).alloc (.cells #[.slice (some ⟨wS.heap.size + 1, 0, none⟩) 1 1, .slice (some ⟨wS.heap.size + 1 + 1, 0, none⟩) 1 1, .slice none 0 0, .int .i64 1] 51)).heap[wS.heap.size]? = some (.cells #[.int .i64 3, .slice (some ⟨w.heap.size + 1, 0, none⟩) 1 1, .slice (some ⟨w.heap.size + 1 + 1, 0, none⟩) 1 1, .slice (some ⟨w.heap.size + 1 + 1 + 1 + 1 + 1 + 1 + 1 + 1 + 1, 0, none⟩) 2 2] 25) := by
    have hb : Below (wS.heap.size + 1) (wS.alloc (.cells #[.int .i64 3, .slice (some ⟨w.heap.size + 1, 0, none⟩) 1 1, .slice (some ⟨w.heap.size + 1 + 1, 0, none⟩) 1 1, .slice (some ⟨w.heap.size + 1 + 1 + 1 + 1 + 1 + 1 + 1 + 1 + 1, 0, none⟩) 2 2] 25)) ((((wS.alloc (.cells #[.int .i64 3, .slice (some ⟨w.heap.size + 1, 0, none⟩) 1 1, .slice (some ⟨w.heap.size + 1 + 1, 0, none⟩) 1 1, .slice (some ⟨w.heap.size + 1 + 1 + 1 + 1 + 1 + 1 + 1 + 1 + 1, 0, none⟩) 2 2] 25)).alloc (.cells #[.int .i64 0] 3)).alloc (.cells #[.int .i64 0] 3)).alloc (.cells #[.slice (some ⟨wS.heap.size + 1, 0, none⟩) 1 1, .slice (some ⟨wS.heap.size + 1 + 1, 0, none⟩) 1 1, .slice none 0 0, .int .i64 1] 51)) := by
      refine (((Below.refl _ _).alloc ?_ _).alloc ?_ _).alloc ?_ _ <;> (try simp) <;> omega
    rw [hb.block _ (by omega)]
    exact World.alloc_heap_new _ _
  have h2 : w6.heap[wS.heap.size]? = some (.cells #[.int .i64 3, .slice (some ⟨w.heap.size + 1, 0, none⟩) 1 1, .slice (some ⟨w.heap.size + 1 + 1, 0, none⟩) 1 1, .slice (some ⟨w.heap.size + 1 + 1 + 1 + 1 + 1 + 1 + 1 + 1 + 1, 0, none⟩) 2 2] 25) := (hg.block _ (by simp; omega) (by rw [hZ]; intro e; have := Option.some.inj e; omega)).trans h1
  refine ⟨?_, ?_, ?_, ?_, ?_⟩
  · rw [Lib.cell_of_heap h2]; rfl
  · rw [Lib.cell_of_heap h2]; rfl
  · rw [Lib.cell_of_heap h2]; rfl
  · rw [Lib.cell_of_heap h2]; rfl
  · simp [World.frozen?, h2]
theorem sh_all {w wS w6 : World} {gg cap : Nat} (hM : Ex2 w.heap.size wS) (hBS : Below w.heap.size w wS) (hT : TabIn w) (hg : ((((wS.alloc (.cells #[.int .i64 3, .slice (some ⟨w.heap.size + 1, 0, none⟩) 1 1, .slice (some ⟨w.heap.size + 1 + 1, 0, none⟩) 1 1, .slice (some ⟨w.heap.size + 1 + 1 + 1 + 1 + 1 + 1 + 1 + 1 + 1, 0, none⟩) 2 2] 25)).alloc (.cells #[.int .i64 0] 3)).alloc (.cells #[.int .i64 0] 3)).alloc (.cells #[.slice (some ⟨wS.heap.size + 1, 0, none⟩) 1 1, .slice (some ⟨wS.heap.size + 1 + 1, 0, none⟩) 1 1, .slice none 0 0, .int .i64 1] 51)).grownBy w6 (some (w.heap.size + 1 + 1 + 1 + 1 + 1 + 1 + 1 + 1 + 1))) (hat : (some (w.heap.size + 1 + 1 + 1 + 1 + 1 + 1 + 1 + 1 + 1)) = some gg ∨ gg = ((((wS.alloc (.cells #[.int .i64 3, .slice (some ⟨w.heap.size + 1, 0, none⟩) 1 1, .slice (some ⟨w.heap.size + 1 + 1, 0, none⟩) 1 1, .slice (some ⟨w.heap.size + 1 + 1 + 1 + 1 + 1 + 1 + 1 + 1 + 1, 0, none⟩) 2 2] 25)).alloc (.cells #[.int .i64 0] 3)).alloc (.cells #[.int .i64 0] 3)).alloc (.cells #[.slice (some ⟨wS.heap.size + 1, 0, none⟩) 1 1, .slice (some ⟨wS.heap.size + 1 + 1, 0, none⟩) 1 1, .slice none 0 0, .int .i64 1] 51)).heap.size)
    (ho : w6.ownsRow w.heap.size 51 4 (.slice (some ⟨gg, 0, none⟩) 3 cap) 3 ([.slice (some ⟨w.heap.size + 1 + 1 + 1, 0, none⟩) 1 1, .slice (some ⟨w.heap.size + 1 + 1 + 1 + 1, 0, none⟩) 1 1, .slice (some ⟨w.heap.size + 1 + 1 + 1 + 1 + 1, 0, none⟩) 1 1, .int .i64 2, .slice (some ⟨w.heap.size + 1 + 1 + 1 + 1 + 1 + 1, 0, none⟩) 1 1, .slice (some ⟨w.heap.size + 1 + 1 + 1 + 1 + 1 + 1 + 1, 0, none⟩) 1 1, .slice (some ⟨w.heap.size + 1 + 1 + 1 + 1 + 1 + 1 + 1 + 1, 0, none⟩) 1 1, .int .i64 3] ++ [.slice (some ⟨wS.heap.size + 1, 0, none⟩) 1 1, .slice (some ⟨wS.heap.size + 1 + 1, 0, none⟩) 1 1, .slice none 0 0, .int .i64 1])) :
    ∃ x : Tsk, x = ⟨3, [0], [2], exOps3, (some ⟨w.heap.size + 1, 0, none⟩), (some ⟨w.heap.size + 1 + 1, 0, none⟩), some ⟨gg, 0, none⟩, 1, 1, cap⟩ ∧ IsEx3 x ∧ Alive [boxS wS.heap.size x, tskS x, tabS, belS w] (w6.setCell ⟨wS.heap.size, 3, none⟩ (.slice (some ⟨gg, 0, none⟩) 3 cap)) := by
  have hZ := hM.size
  obtain ⟨k0, k1, k2, k3, f3⟩ := sh_box hZ hg
  have hsP : ((((wS.alloc (.cells #[.int .i64 3, .slice (some ⟨w.heap.size + 1, 0, none⟩) 1 1, .slice (some ⟨w.heap.size + 1 + 1, 0, none⟩) 1 1, .slice (some ⟨w.heap.size + 1 + 1 + 1 + 1 + 1 + 1 + 1 + 1 + 1, 0, none⟩) 2 2] 25)).alloc (.cells #[.int .i64 0] 3)).alloc (.cells #[.int .i64 0] 3)).alloc (.cells #[.slice (some ⟨wS.heap.size + 1, 0, none⟩) 1 1, .slice (some ⟨wS.heap.size + 1 + 1, 0, none⟩) 1 1, .slice none 0 0, .int .i64 1] 51)).heap.size = wS.heap.size + 1 + 1 + 1 + 1 := by simp
  have hs6 : wS.heap.size + 1 + 1 + 1 + 1 ≤ w6.heap.size := by have := hg.size; omega
  have hgg : gg ≠ wS.heap.size := by
    rcases hat with h | h
    · have := Option.some.inj h; omega
    · omega
  have hP : ∀ q, q ≤ wS.heap.size + 1 + 1 → q ≠ w.heap.size + 1 + 1 + 1 + 1 + 1 + 1 + 1 + 1 + 1 → w6.heap[q]? = ((((wS.alloc (.cells #[.int .i64 3, .slice (some ⟨w.heap.size + 1, 0, none⟩) 1 1, .slice (some ⟨w.heap.size + 1 + 1, 0, none⟩) 1 1, .slice (some ⟨w.heap.size + 1 + 1 + 1 + 1 + 1 + 1 + 1 + 1 + 1, 0, none⟩) 2 2] 25)).alloc (.cells #[.int .i64 0] 3)).alloc (.cells #[.int .i64 0] 3)).alloc (.cells #[.slice (some ⟨wS.heap.size + 1, 0, none⟩) 1 1, .slice (some ⟨wS.heap.size + 1 + 1, 0, none⟩) 1 1, .slice none 0 0, .int .i64 1] 51)).heap[q]? := fun q hq hn => hg.block q (by omega) (fun e => hn (Option.some.inj e))
  have hk : ∀ k, k < wS.heap.size → k ≠ w.heap.size + 1 + 1 + 1 + 1 + 1 + 1 + 1 + 1 + 1 → (w6.setCell ⟨wS.heap.size, 3, none⟩ (.slice (some ⟨gg, 0, none⟩) 3 cap)).cell? ⟨k, 0, none⟩ = wS.cell? ⟨k, 0, none⟩ := by
    intro k h1 h2
    rw [World.cell?_setCell_other _ _ _ _ (by intro e; have e2 := congrArg Addr.block e; simp at e2; omega)]
    refine (World.cell?_of_block (hP k (by omega) h2)).trans ?_
    have hb : Below wS.heap.size wS ((((wS.alloc (.cells #[.int .i64 3, .slice (some ⟨w.heap.size + 1, 0, none⟩) 1 1, .slice (some ⟨w.heap.size + 1 + 1, 0, none⟩) 1 1, .slice (some ⟨w.heap.size + 1 + 1 + 1 + 1 + 1 + 1 + 1 + 1 + 1, 0, none⟩) 2 2] 25)).alloc (.cells #[.int .i64 0] 3)).alloc (.cells #[.int .i64 0] 3)).alloc (.cells #[.slice (some ⟨wS.heap.size + 1, 0, none⟩) 1 1, .slice (some ⟨wS.heap.size + 1 + 1, 0, none⟩) 1 1, .slice none 0 0, .int .i64 1] 51)) := by
      refine ((((Below.refl _ _).alloc ?_ _).alloc ?_ _).alloc ?_ _).alloc ?_ _ <;> (try simp) <;> omega
    exact hb.cell (p := ⟨k, 0, none⟩) h1
  have hd : ∀ q, q = wS.heap.size + 1 ∨ q = wS.heap.size + 1 + 1 → (w6.setCell ⟨wS.heap.size, 3, none⟩ (.slice (some ⟨gg, 0, none⟩) 3 cap)).cell? ⟨q, 0, none⟩ = some (.int .i64 0) := by
    intro q hq
    rw [World.cell?_setCell_other _ _ _ _ (by intro e; have e2 := congrArg Addr.block e; simp at e2; omega)]
    refine (World.cell?_of_block (hP q (by omega) (by omega))).trans ?_
    rcases hq with rfl | rfl <;> first | (simp; done) | (go_simp; done) | (simp [go_sem]; done)
  have ho7 : (w6.setCell ⟨wS.heap.size, 3, none⟩ (.slice (some ⟨gg, 0, none⟩) 3 cap)).ownsRow w.heap.size 51 4 (.slice (some ⟨gg, 0, none⟩) 3 cap) 3 ([.slice (some ⟨w.heap.size + 1 + 1 + 1, 0, none⟩) 1 1, .slice (some ⟨w.heap.size + 1 + 1 + 1 + 1, 0, none⟩) 1 1, .slice (some ⟨w.heap.size + 1 + 1 + 1 + 1 + 1, 0, none⟩) 1 1, .int .i64 2, .slice (some ⟨w.heap.size + 1 + 1 + 1 + 1 + 1 + 1, 0, none⟩) 1 1, .slice (some ⟨w.heap.size + 1 + 1 + 1 + 1 + 1 + 1 + 1, 0, none⟩) 1 1, .slice (some ⟨w.heap.size + 1 + 1 + 1 + 1 + 1 + 1 + 1 + 1, 0, none⟩) 1 1, .int .i64 3] ++ [.slice (some ⟨wS.heap.size + 1, 0, none⟩) 1 1, .slice (some ⟨wS.heap.size + 1 + 1, 0, none⟩) 1 1, .slice none 0 0, .int .i64 1]) :=
    ownsRow_setCell_other ho (by simp [Value.ownBlock]; omega) _
  have hbel : Below w.heap.size w (w6.setCell ⟨wS.heap.size, 3, none⟩ (.slice (some ⟨gg, 0, none⟩) 3 cap)) := by
    have hb : Below w.heap.size wS ((((wS.alloc (.cells #[.int .i64 3, .slice (some ⟨w.heap.size + 1, 0, none⟩) 1 1, .slice (some ⟨w.heap.size + 1 + 1, 0, none⟩) 1 1, .slice (some ⟨w.heap.size + 1 + 1 + 1 + 1 + 1 + 1 + 1 + 1 + 1, 0, none⟩) 2 2] 25)).alloc (.cells #[.int .i64 0] 3)).alloc (.cells #[.int .i64 0] 3)).alloc (.cells #[.slice (some ⟨wS.heap.size + 1, 0, none⟩) 1 1, .slice (some ⟨wS.heap.size + 1 + 1, 0, none⟩) 1 1, .slice none 0 0, .int .i64 1] 51)) := by
      refine ((((Below.refl _ _).alloc ?_ _).alloc ?_ _).alloc ?_ _).alloc ?_ _ <;> (try simp) <;> omega
    exact ((hBS.trans hb).grown hg (by omega) (fun q hq => by have := Option.some.inj hq; omega)).setCell (by show w.heap.size ≤ wS.heap.size; omega) _
  refine ⟨⟨3, [0], [2], exOps3, (some ⟨w.heap.size + 1, 0, none⟩), (some ⟨w.heap.size + 1 + 1, 0, none⟩), some ⟨gg, 0, none⟩, 1, 1, cap⟩, rfl, ⟨rfl, rfl, rfl, rfl⟩, ?_⟩
  refine Alive.cons (boxS wS.heap.size _) ?_ (Alive.cons (tskS _) ?_ (Alive.cons tabS (hT.to hbel (Nat.le_refl _)) (Alive.cons (belS w) hbel (Alive.nil _))))
  · refine ⟨by simp; omega, ?_, ?_, ?_, ?_⟩
    · rw [World.cell?_setCell_other _ _ _ _ (by simp)]; exact k0
    · rw [World.cell?_setCell_other _ _ _ _ (by simp)]; exact k1
    · rw [World.cell?_setCell_other _ _ _ _ (by simp)]; exact k2
    · exact World.cell?_setCell_same' _ _ _ (by rw [k3]; rfl)
  · exact ex3_in hM rfl hk (by simp; omega) (hd _ (.inl rfl)) (hd _ (.inr rfl)) ho7
set_option maxHeartbeats 8000000 in
theorem shortens_any (hFl : FlC) (hRd : RdC) (hMn : MnC) (w : World) (hT : TabIn w) :
    Calls Tryd.prog 10 #[] w fun e w' => e = .returned (.bool true) ∧ Below w.heap.size w w' := by
  obtain ⟨i0, hi0, hz0, hz1, hz2⟩ := info_parts info_op
  have HT := Lib.hid hT
  clear hT
  go_enter Tryd.func10, Tryd.ntmps10
  go_upto_region 3 with (first | (go_at_call 27; refine (steps2_any _).mono ?_; rintro e wS ⟨rfl, hM, hb⟩; have HM := Lib.hid hM; have HBS := Lib.hid hb; have HZ := Lib.hid hM.size; clear hM hb) | (at_builtin; refine wpList_append_lies _ rfl _ _ 23 rfl w.heap.size 51 i0 (.agg #[.slice none 0 0, .slice none 0 0, .slice none 0 0, .int .i64 0]) 4 80 Tryd.underlying23 hi0 hz0 hz1 hz2 rfl (by decide) _ 2 _ rfl (own_mono ((((HM.out.row.alloc _).alloc _).alloc _).alloc _) (by omega)) _ 1 1 [.slice (some ⟨wS.heap.size + 1, 0, none⟩) 1 1, .slice (some ⟨wS.heap.size + 1 + 1, 0, none⟩) 1 1, .slice none 0 0, .int .i64 1] rfl rfl (World.news_of_block (heap_new' (by simp))) (by simp [Value.oneCell']) (by decide) (by simp [maxLen]) (by decide) (by have := HZ.out; simp; omega) _ rfl ?_; intro gg cap w6 hown hgrow hat hlt6; have HOW := Lib.hid hown; have HGR := Lib.hid hgrow; have HAT := Lib.hid hat; obtain ⟨k0, k1, k2, k3, f3⟩ := sh_box HZ.out hgrow; clear hown hgrow hat hlt6))
  obtain ⟨x, hxe, hx, ha⟩ := sh_all HM.out HBS.out HT.out HGR.out HAT.out HOW.out
  have hxo : x.ao = some ⟨gg, 0, none⟩ ∧ x.co = cap := by subst hxe; exact ⟨rfl, rfl⟩
  generalize hU : w6.setCell ⟨wS.heap.size, 3, none⟩ (.slice (some ⟨gg, 0, none⟩) 3 cap) = U at ha ⊢
  clear hU k0 k1 k2 k3 f3
  have HX := Lib.hid hx
  have hP := Lib.hid ha
  generalize hS : wS.heap.size = S at hP ⊢
  clear ha hx hxe hxo
  obtain ⟨_, t0, t1, t2, t3⟩ := (show TBox _ _ x from hP.out (boxS S x) (by simp))
  go_wp2_with (first | (go_at_call 9; have hTk := Lib.hid (show TskIn _ _ x from hP.out (tskS x) (by simp)); have hTb := Lib.hid (show TabIn _ from hP.out tabS (by simp)); (with_reducible refine (fl_ex hFl HX.out ?_ hTk.out hTb.out).mono ?_); (focus simp); rintro e wA ⟨rfl, hb⟩; have hP := Lib.hid (Alive.cons (twoS wA.heap.size (.int .i64 0) (.int .i64 0)) (two_new wA _ _ 27) ((hP.out.to hb).to ((Below.refl _ _).alloc (Nat.le_refl _) _))); clear hb; obtain ⟨_, t0, t1, t2, t3⟩ := (show TBox _ _ x from hP.out (boxS S x) (by simp))) | (go_at_call 13; have hTk := Lib.hid (show TskIn _ _ x from hP.out (tskS x) (by simp)); have hTb := Lib.hid (show TabIn _ from hP.out tabS (by simp)); (with_reducible refine (rd_ex hRd HX.out ?_ hTk.out hTb.out).mono ?_); (focus simp); rintro e wB ⟨aB, cB, rfl, hl, hb⟩; have hP := Lib.hid (Alive.cons (twoS wB.heap.size (.int .i64 0) (.int .i64 0)) (two_new wB _ _ 27) ((Alive.cons (lstS aB cB [0, 1]) hl (hP.out.to hb)).to ((Below.refl _ _).alloc (Nat.le_refl _) _))); clear hl hb; obtain ⟨_, t0, t1, t2, t3⟩ := (show TBox _ _ x from hP.out (boxS S x) (by simp))) | (go_at_call 17; have hTk := Lib.hid (show TskIn _ _ x from hP.out (tskS x) (by simp)); have hTb := Lib.hid (show TabIn _ from hP.out tabS (by simp)); (with_reducible refine (mn1_ex hMn HX.out ?_ hTk.out hTb.out).mono ?_); (focus simp); rintro e wC ⟨rfl, hb⟩; have hP := Lib.hid (Alive.cons (twoS wC.heap.size (.int .i64 0) (.int .i64 0)) (two_new wC _ _ 27) ((hP.out.to hb).to ((Below.refl _ _).alloc (Nat.le_refl _) _))); clear hb; obtain ⟨_, t0, t1, t2, t3⟩ := (show TBox _ _ x from hP.out (boxS S x) (by simp))) | (go_at_call 17; have hTk := Lib.hid (show TskIn _ _ x from hP.out (tskS x) (by simp)); have hTb := Lib.hid (show TabIn _ from hP.out tabS (by simp)); (with_reducible refine (mn2_ex hMn HX.out ?_ hTk.out hTb.out).mono ?_); (focus simp); rintro e wD ⟨rfl, hb⟩; have hP := Lib.hid (Alive.cons (twoS wD.heap.size (.int .i64 0) (.int .i64 0)) (two_new wD _ _ 27) ((hP.out.to hb).to ((Below.refl _ _).alloc (Nat.le_refl _) _))); clear hb; obtain ⟨_, t0, t1, t2, t3⟩ := (show TBox _ _ x from hP.out (boxS S x) (by simp))) | (go_at_call 13; have hTk := Lib.hid (show TskIn _ _ x from hP.out (tskS x) (by simp)); have hTb := Lib.hid (show TabIn _ from hP.out tabS (by simp)); (with_reducible refine (rd0_ex hRd HX.out hTk.out hTb.out).mono ?_); rintro e wE ⟨aE, cE, rfl, hb⟩; have hP := Lib.hid (Alive.cons (twoS wE.heap.size (.int .i64 11) (.int .i64 (-8))) (two_new wE _ _ 27) ((hP.out.to hb).to ((Below.refl _ _).alloc (Nat.le_refl _) _))); clear hb; obtain ⟨_, t0, t1, t2, t3⟩ := (show TBox _ _ x from hP.out (boxS S x) (by simp))))
  generalize hU2 : wE.alloc (.cells #[.int .i64 11, .int .i64 (-8)] 27) = U2 at hP ⊢
  clear hU2
  have HAL := Lib.hid (fun (V : World) (h : Below U2.heap.size U2 V) => hP.out.to h)
  clear hP
  have HSO := Lib.hid (fun (V : World) (h : Below U2.heap.size U2 V) => (⟨(show Two V wA.heap.size _ _ from HAL.out V h (twoS wA.heap.size (.int .i64 0) (.int .i64 0)) (by simp)).fst, (show Two V wB.heap.size _ _ from HAL.out V h (twoS wB.heap.size (.int .i64 0) (.int .i64 0)) (by simp)).fst, (show Two V wC.heap.size _ _ from HAL.out V h (twoS wC.heap.size (.int .i64 0) (.int .i64 0)) (by simp)).fst,
    (show Two V wD.heap.size _ _ from HAL.out V h (twoS wD.heap.size (.int .i64 0) (.int .i64 0)) (by simp)).fst, (show Two V wE.heap.size _ _ from HAL.out V h (twoS wE.heap.size (.int .i64 11) (.int .i64 (-8))) (by simp)).fst, (show Two V wE.heap.size _ _ from HAL.out V h (twoS wE.heap.size (.int .i64 11) (.int .i64 (-8))) (by simp)).snd, h⟩ : V.cell? ⟨wA.heap.size, 0, none⟩ = some (.int .i64 0) ∧ V.cell? ⟨wB.heap.size, 0, none⟩ = some (.int .i64 0) ∧ V.cell? ⟨wC.heap.size, 0, none⟩ = some (.int .i64 0) ∧ V.cell? ⟨wD.heap.size, 0, none⟩ = some (.int .i64 0) ∧ V.cell? ⟨wE.heap.size, 0, none⟩ = some (.int .i64 11) ∧ V.cell? ⟨wE.heap.size, 1, none⟩ = some (.int .i64 (-8)) ∧ Below U2.heap.size U2 V))
  have hUU := Below.refl U2.heap.size U2
  go_region_held3 (fun V => V.cell? ⟨wA.heap.size, 0, none⟩ = some (.int .i64 0) ∧ V.cell? ⟨wB.heap.size, 0, none⟩ = some (.int .i64 0) ∧ V.cell? ⟨wC.heap.size, 0, none⟩ = some (.int .i64 0) ∧ V.cell? ⟨wD.heap.size, 0, none⟩ = some (.int .i64 0) ∧ V.cell? ⟨wE.heap.size, 0, none⟩ = some (.int .i64 11) ∧ V.cell? ⟨wE.heap.size, 1, none⟩ = some (.int .i64 (-8)) ∧ Below U2.heap.size U2 V) (first | (refine ⟨?_, ?_, ?_, ?_, ?_, ?_, ?_⟩ <;> assumption) | (exact HSO.out _ hUU.drew) | (exact HSO.out _ (bel_step (last7 (by assumption)) (by assumption))) | (exact HSO.out _ (al6 (last7 (by assumption)))) | (exact HSO.out _ (al6 (last7 (by assumption))).drew))
    (first
      | (go_at_call 16; refine (at_any _ _ _).mono ?_; rintro e w' ⟨rfl, hb⟩)
      | (go_at_call 14; refine (ints_3 ?_ ?_).mono ?_; (exact (show Lst _ _ aB cB [0, 1] from HAL.out _ (last7 (by assumption)) (lstS aB cB [0, 1]) (by simp))); (exact lst_new2 _ 0 1); rintro e wI ⟨rfl, hb⟩))
  all_goals
    have HF := Lib.hid (show Below w.heap.size w wI from HAL.out wI (last7 (by assumption)) (belS w) (by simp))
    clear HSO HAL hUU
    go_wp2
    go_ret
    exact ⟨rfl, HF.out⟩
end Go.Proofs.YtkflidnclndpkaaDoor
