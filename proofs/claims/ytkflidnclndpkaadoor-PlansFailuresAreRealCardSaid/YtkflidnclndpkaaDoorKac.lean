/- The closed example of the laws on tasks: acts is true. -/
import Derived.Test.YtkflidnclndpkaaDoorKex
namespace Go.Proofs.YtkflidnclndpkaaDoor
open Go.RowKit
set_option linter.unusedSimpArgs false
set_option linter.unusedVariables false
set_option maxRecDepth 100000

section
variable {x : Tsk}
theorem IsEx.eq (h : IsEx x) : ∃ ai ag ao ci cg co, x = ⟨3, [0], [2], exOps, ai, ag, ao, ci, cg, co⟩ := by
  obtain ⟨n, init, goal, ops, ai, ag, ao, ci, cg, co⟩ := x
  obtain ⟨h1, h2, h3, h4⟩ := h
  simp only at h1 h2 h3 h4
  subst h1 h2 h3 h4
  exact ⟨ai, ag, ao, ci, cg, co, rfl⟩
theorem ex_1 (h : IsEx x) : stF x [0, 1] = (0, 0) ∧ appM x [0, 1] = [0, 1] := by
  obtain ⟨ai, ag, ao, ci, cg, co, rfl⟩ := h.eq
  exact ⟨rfl, rfl⟩
theorem ex_2 (h : IsEx x) : ayF x [0] 0 = (0, 0) ∧ ayL x [0] 0 = [1] := by
  obtain ⟨ai, ag, ao, ci, cg, co, rfl⟩ := h.eq
  exact ⟨rfl, rfl⟩
theorem ex_3 (h : IsEx x) : plyF x [0] [0, 1] = (0, 0) ∧ plyL x [0] [0, 1] = [[0], [1], [2]] := by
  obtain ⟨ai, ag, ao, ci, cg, co, rfl⟩ := h.eq
  exact ⟨rfl, rfl⟩
theorem ex_4 (h : IsEx x) : plF x [0, 1] = (0, 0) ∧ svB x [0, 1] = true ∧ coM x [0, 1] = 5 := by
  obtain ⟨ai, ag, ao, ci, cg, co, rfl⟩ := h.eq
  exact ⟨rfl, rfl, rfl⟩
theorem ex_5 (h : IsEx x) : ckF x [2] [1] = (0, 0) ∧ reB x [2] 1 = true ∧ reL x [2] 1 = [1] := by
  obtain ⟨ai, ag, ao, ci, cg, co, rfl⟩ := h.eq
  exact ⟨rfl, rfl, rfl⟩
theorem ex_6 (h : IsEx x) : ayF x [0] 1 = (11, 1) ∧ ayL x [0] 1 = [] := by
  obtain ⟨ai, ag, ao, ci, cg, co, rfl⟩ := h.eq
  exact ⟨rfl, rfl⟩
end

/-- A fact on a world that every later world keeps. -/
structure SP where
  p : World → Prop
  st : ∀ W W', Below W.heap.size W W' → p W → p W'
def Alive (l : List SP) (W : World) : Prop := ∀ s, s ∈ l → s.p W
theorem Alive.to {l : List SP} {W W' : World} (h : Alive l W) (hb : Below W.heap.size W W') : Alive l W' := fun s hs => s.st W W' hb (h s hs)
theorem Alive.cons {l : List SP} {W : World} (s : SP) (hs : s.p W) (h : Alive l W) : Alive (s :: l) W := fun q hq => by
  rcases List.mem_cons.1 hq with rfl | hq
  · exact hs
  · exact h q hq
theorem Alive.nil (W : World) : Alive [] W := fun s hs => by simp at hs
theorem Alive.hd {l : List SP} {W : World} {s : SP} (h : Alive (s :: l) W) : s.p W := h s (by simp)
theorem Alive.tl {l : List SP} {W : World} {s : SP} (h : Alive (s :: l) W) : Alive l W := fun q hq => h q (List.mem_cons_of_mem _ hq)
def twoS (g : Nat) (u v : Value) : SP := ⟨fun W => Two W g u v, fun _ _ hb h => two_to h hb⟩
def lstS (a : Option Addr) (c : Nat) (xs : List Int) : SP := ⟨fun W => Lst W W.heap.size a c xs, fun _ _ hb h => h.to hb hb.size⟩
def sl2S (v : Value) (xs : List (List Int)) : SP := ⟨fun W => SliceOf2 W v xs, fun _ _ hb h => h.to hb⟩
def tabS : SP := ⟨TabIn, fun _ _ hb h => h.to hb (Nat.le_refl _)⟩
def belS (w : World) : SP := ⟨fun W => Below w.heap.size w W, fun _ _ hb h => h.trans (hb.mono h.size)⟩

theorem lst_new1 (w : World) (a : Int) : Lst (w.alloc (.cells #[.int .i64 a] 3)) (w.alloc (.cells #[.int .i64 a] 3)).heap.size (some ⟨w.heap.size, 0, none⟩) 1 [a] :=
  lst_cell (by simp) (by simp) (by omega) (by simp [maxLen])
theorem lst_new2 (w : World) (a b : Int) : Lst (w.alloc (.cells #[.int .i64 a, .int .i64 b] 3)) (w.alloc (.cells #[.int .i64 a, .int .i64 b] 3)).heap.size (some ⟨w.heap.size, 0, none⟩) 2 [a, b] := by
  refine ⟨fun _ => ⟨w.heap.size, 0, rfl, by simp, fun k hk => ?_⟩, by simp, by simp [maxLen]⟩
  match k, hk with
  | 0, _ => simp [ix]
  | 1, _ => simp [ix]

section
variable {x : Tsk} {w : World}
theorem ay0_ex (hx : IsEx x) (ht : TskIn w w.heap.size x) (hT : TabIn w) :
    Calls Tryd.prog 46 #[.agg #[.int .i64 x.n, .slice x.ai x.init.length x.ci, .slice x.ag x.goal.length x.cg, .slice x.ao x.ops.length x.co], .slice (some ⟨w.heap.size, 0, none⟩) 1 1, .int .i64 0] (w.alloc (.cells #[.int .i64 0] 3)) fun e w' => ∃ a c, e = .returned (.tuple #[.slice a 1 c, .agg #[.int .i64 0, .int .i64 0]]) ∧ Lst w' w'.heap.size a c [1] ∧ Below w.heap.size w w' := by
  have hb : Below w.heap.size w (w.alloc (.cells #[.int .i64 0] 3)) := by go_grown
  have h := apply_any x _ 1 [0] 0 _ (ht.to hb hb.size) (lst_new1 w 0) (hT.to hb (Nat.le_refl _))
  rw [(ex_2 hx).1, (ex_2 hx).2] at h
  exact h.mono fun e w' ⟨v, he, hs, hb2⟩ => by obtain ⟨a, c, rfl, hl⟩ := hs.set; exact ⟨a, c, he, hl, hb.trans (hb2.mono hb.size)⟩
theorem ay1_ex (hx : IsEx x) (ht : TskIn w w.heap.size x) (hT : TabIn w) :
    Calls Tryd.prog 46 #[.agg #[.int .i64 x.n, .slice x.ai x.init.length x.ci, .slice x.ag x.goal.length x.cg, .slice x.ao x.ops.length x.co], .slice (some ⟨w.heap.size, 0, none⟩) 1 1, .int .i64 1] (w.alloc (.cells #[.int .i64 0] 3)) fun e w' => ∃ v, e = .returned (.tuple #[v, .agg #[.int .i64 11, .int .i64 1]]) ∧ SliceOf w' v [] ∧ Below w.heap.size w w' := by
  have hb : Below w.heap.size w (w.alloc (.cells #[.int .i64 0] 3)) := by go_grown
  have h := apply_any x _ 1 [0] 1 _ (ht.to hb hb.size) (lst_new1 w 0) (hT.to hb (Nat.le_refl _))
  rw [(ex_6 hx).1, (ex_6 hx).2] at h
  exact h.mono fun e w' ⟨v, he, hs, hb2⟩ => ⟨v, he, hs, hb.trans (hb2.mono hb.size)⟩
theorem ply_ex (hx : IsEx x) (ht : TskIn w w.heap.size x) (hT : TabIn w) :
    Calls Tryd.prog 24 #[.agg #[.int .i64 x.n, .slice x.ai x.init.length x.ci, .slice x.ag x.goal.length x.cg, .slice x.ao x.ops.length x.co], .slice (some ⟨w.heap.size, 0, none⟩) 1 1, .slice (some ⟨w.heap.size + 1, 0, none⟩) 2 2] ((w.alloc (.cells #[.int .i64 0] 3)).alloc (.cells #[.int .i64 0, .int .i64 1] 3)) fun e w' => ∃ a c, e = .returned (.tuple #[.slice a 3 c, .agg #[.int .i64 0, .int .i64 0]]) ∧ Below w.heap.size w w' := by
  have hb : Below w.heap.size w ((w.alloc (.cells #[.int .i64 0] 3)).alloc (.cells #[.int .i64 0, .int .i64 1] 3)) := by go_grown
  have hl := lst_new2 (w.alloc (.cells #[.int .i64 0] 3)) 0 1
  have h := play_any x (some ⟨w.heap.size, 0, none⟩) (some ⟨w.heap.size + 1, 0, none⟩) 1 2 [0] [0, 1] _ (ht.to hb hb.size) ((lst_new1 w 0).to ((Below.refl _ _).alloc (Nat.le_refl _) (.cells #[.int .i64 0, .int .i64 1] 3)) (by simp)) (by simpa using hl) (hT.to hb (Nat.le_refl _))
  rw [(ex_3 hx).1, (ex_3 hx).2] at h
  exact h.mono fun e w' ⟨v, he, hs, hb2⟩ => by obtain ⟨a, c, hv, _⟩ := hs.slice; exact ⟨a, c, by rw [he, hv]; rfl, hb.trans (hb2.mono hb.size)⟩
theorem sv_ex (hx : IsEx x) (ht : TskIn w w.heap.size x) :
    Calls Tryd.prog 19 #[.agg #[.int .i64 x.n, .slice x.ai x.init.length x.ci, .slice x.ag x.goal.length x.cg, .slice x.ao x.ops.length x.co], .slice (some ⟨w.heap.size, 0, none⟩) 2 2] (w.alloc (.cells #[.int .i64 0, .int .i64 1] 3)) fun e w' => e = .returned (.tuple #[.bool true, .agg #[.int .i64 0, .int .i64 0]]) ∧ Below w.heap.size w w' := by
  have hb : Below w.heap.size w (w.alloc (.cells #[.int .i64 0, .int .i64 1] 3)) := by go_grown
  have h := ssolves_any x _ 2 [0, 1] _ (ht.to hb hb.size) (lst_new2 w 0 1)
  rw [(ex_4 hx).1, (ex_4 hx).2.1] at h
  exact h.mono fun e w' ⟨he, hb2⟩ => ⟨he, hb.trans (hb2.mono hb.size)⟩
theorem co_ex (hx : IsEx x) (ht : TskIn w w.heap.size x) :
    Calls Tryd.prog 20 #[.agg #[.int .i64 x.n, .slice x.ai x.init.length x.ci, .slice x.ag x.goal.length x.cg, .slice x.ao x.ops.length x.co], .slice (some ⟨w.heap.size, 0, none⟩) 2 2] (w.alloc (.cells #[.int .i64 0, .int .i64 1] 3)) fun e w' => e = .returned (.tuple #[.int .i64 5, .agg #[.int .i64 0, .int .i64 0]]) ∧ Below w.heap.size w w' := by
  have hb : Below w.heap.size w (w.alloc (.cells #[.int .i64 0, .int .i64 1] 3)) := by go_grown
  have h := cost_any x _ 2 [0, 1] _ (ht.to hb hb.size) (lst_new2 w 0 1)
  rw [(ex_4 hx).1, (ex_4 hx).2.2] at h
  exact h.mono fun e w' ⟨he, hb2⟩ => ⟨he, hb.trans (hb2.mono hb.size)⟩
end

theorem last9 {P1 P2 P3 P4 P5 P6 P7 P8 Q : Prop} (h : P1 ∧ P2 ∧ P3 ∧ P4 ∧ P5 ∧ P6 ∧ P7 ∧ P8 ∧ Q) : Q := h.2.2.2.2.2.2.2.2
theorem bel_step {U V V' : World} (h : Below U.heap.size U V) (h2 : Below V.heap.size V V') : Below U.heap.size U V' := h.trans (h2.mono h.size)
theorem ints_2 {a : Option Addr} {c : Nat} {V : World} (h : Lst V V.heap.size a c [0, 1]) :
    Calls Tryd.prog 14 #[.slice a 2 c, .slice (some ⟨V.heap.size, 0, none⟩) 2 2] (V.alloc (.cells #[.int .i64 0, .int .i64 1] 3)) fun e w' => e = .returned (.bool true) ∧ Below V.heap.size V w' := by
  have hb : Below V.heap.size V (V.alloc (.cells #[.int .i64 0, .int .i64 1] 3)) := by go_grown
  have h2 := ints_any a _ c 2 [0, 1] [0, 1] _ (h.to hb hb.size).nums (lst_new2 V 0 1).nums (by simp [maxLen]) (by simp [maxLen])
  exact h2.mono fun e w' ⟨he, hb2⟩ => ⟨he.trans (ret_bool rfl), hb.trans (hb2.mono hb.size)⟩
theorem ints_1 {a : Option Addr} {c : Nat} {V : World} (h : Lst V V.heap.size a c [1]) :
    Calls Tryd.prog 14 #[.slice a 1 c, .slice (some ⟨V.heap.size, 0, none⟩) 1 1] (V.alloc (.cells #[.int .i64 1] 3)) fun e w' => e = .returned (.bool true) ∧ Below V.heap.size V w' := by
  have hb : Below V.heap.size V (V.alloc (.cells #[.int .i64 1] 3)) := by go_grown
  have h2 := ints_any a _ c 1 [1] [1] _ (h.to hb hb.size).nums (lst_new1 V 1).nums (by simp [maxLen]) (by simp [maxLen])
  exact h2.mono fun e w' ⟨he, hb2⟩ => ⟨he.trans (ret_bool rfl), hb.trans (hb2.mono hb.size)⟩
theorem val_ex (V : World) :
    Calls Tryd.prog 48 #[.agg #[.int .i64 (-1), .slice none 0 0, .slice none 0 0, .slice none 0 0]] V fun e w' => e = .returned (.agg #[.int .i64 3, .int .i64 (-1)]) ∧ Below V.heap.size V w' :=
  validate_any ⟨-1, [], [], [], none, none, none, 0, 0, 0⟩ V ⟨lst_nil _ _, lst_nil _ _, fun h => by simp at h, by simp, by simp [maxLen]⟩
end Go.Proofs.YtkflidnclndpkaaDoor
