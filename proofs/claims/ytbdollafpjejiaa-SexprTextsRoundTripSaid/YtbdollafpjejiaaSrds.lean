/- The closed example of the laws on expressions. -/
import Derived.Test.YtbdollafpjejiaaSrda
import Derived.Test.YtbdollafpjejiaaSprn
import Derived.Test.YtbdollafpjejiaaSsam
import Derived.Deep.RegionHeld3
namespace Go.Proofs.Ytbdollafpjejiaa
open Go.RowKit Go.Shelf
set_option linter.unusedSimpArgs false
set_option linter.unusedVariables false
set_option maxRecDepth 100000

def exN : List Nd := [(⟨#[97]⟩, []), (⟨#[98]⟩, []), (⟨#[]⟩, [0, 1])]
theorem ex_rd : rdAll ⟨#[40, 97, 32, 98, 41]⟩ = (exN, (0, 0)) := by decide +kernel
theorem ex_bad : rdAll ⟨#[40, 97]⟩ = ([], (1, 2)) := by decide +kernel
theorem ex_sx : sxFault exN = (0, 0) := by decide +kernel
theorem ex_nil : sxFault [] = (2, -1) := by decide +kernel
theorem ex_pr : prText exN = ⟨#[40, 97, 32, 98, 41]⟩ := by decide +kernel
theorem ex_len : (prBytes exN).length ≤ 140737488355328 := by decide +kernel

/-- What reading the example leaves. -/
def RabPost (w : World) (e : Ending) (w' : World) : Prop := ∃ A c, e = .returned (.tuple #[.slice A 3 c, .agg #[.int .i64 0, .int .i64 0]]) ∧ Nodes w' w'.heap.size A exN ∧ Below w.heap.size w w'
theorem read_ab (w : World) : Calls Try.prog 13 #[.string ⟨#[40, 97, 32, 98, 41]⟩] w (RabPost w) := by
  refine (read_any ⟨#[40, 97, 32, 98, 41]⟩ (by decide) w).mono ?_
  rintro e w' ⟨A, c, rfl, hN, _, _, hB⟩
  rw [ex_rd] at hN ⊢
  exact ⟨A, c, rfl, hN, hB⟩
def RbadPost (w : World) (e : Ending) (w' : World) : Prop := ∃ A c, e = .returned (.tuple #[.slice A 0 c, .agg #[.int .i64 1, .int .i64 2]]) ∧ Below w.heap.size w w'
theorem read_bad (w : World) : Calls Try.prog 13 #[.string ⟨#[40, 97]⟩] w (RbadPost w) := by
  refine (read_any ⟨#[40, 97]⟩ (by decide) w).mono ?_
  rintro e w' ⟨A, c, rfl, hN, _, _, hB⟩
  rw [ex_bad] at hN ⊢
  exact ⟨A, c, rfl, hB⟩
theorem print_ab (A : Option Addr) (c : Nat) (w : World) (hE : Nodes w w.heap.size A exN) : Calls Try.prog 10 #[.slice A 3 c] w fun e w' => e = .returned (.tuple #[.string ⟨#[40, 97, 32, 98, 41]⟩, .agg #[.int .i64 0, .int .i64 0]]) ∧ Below w.heap.size w w' := by
  refine (print_any A c exN w hE (by decide) (fun _ => ex_len)).mono ?_
  rintro e w' ⟨rfl, hB⟩
  rw [ex_pr, ex_sx]
  exact ⟨rfl, hB⟩
theorem validate_nil (w : World) : Calls Try.prog 11 #[.slice none 0 0] w fun e w' => e = .returned (.agg #[.int .i64 2, .int .i64 (-1)]) ∧ Below w.heap.size w w' := by
  have h := svalidate_any none 0 [] w (nodes_nil _ _ _) (by decide)
  rw [ex_nil] at h
  exact h
theorem same_ab (A A' : Option Addr) (c c' : Nat) (w : World) (hX : Nodes w w.heap.size A exN) (hY : Nodes w w.heap.size A' exN) : Calls Try.prog 15 #[.slice A 3 c, .slice A' 3 c'] w fun e w' => e = .returned (.bool true) ∧ Below w.heap.size w w' := by
  refine (same_any A A' c c' exN exN w hX hY (by decide) (by decide)).mono ?_
  rintro e w' ⟨rfl, m, rfl⟩
  exact ⟨ret_bool (same_refl _), belowN (Below.refl _ _) m⟩
/-- The cells of the example. -/
abbrev exC (g : Nat) : Array Value := #[.string ⟨#[97]⟩, .slice none 0 0, .string ⟨#[98]⟩, .slice none 0 0, .string ⟨#[]⟩, .slice (some ⟨g, 0, none⟩) 2 2]
theorem ex_at (w w' : World) (g q : Nat) (T : TypeId) (hg : w'.heap[g]? = some (.cells #[.int .i64 0, .int .i64 1] T (0, 0))) (hq : w'.heap[q]? = some (.cells (exC g) ST (0, 0))) : Nodes w' w'.heap.size (some ⟨q, 0, none⟩) exN := by
  have lg : g < w'.heap.size := (Array.getElem?_eq_some_iff.1 hg).1
  have lq : q < w'.heap.size := (Array.getElem?_eq_some_iff.1 hq).1
  have e0 : Nums w' w'.heap.size (some ⟨g, 0, none⟩) [0, 1] := fun _ => ⟨g, 0, rfl, lg, fun k hk => by
    rw [Lib.cell_of_heap hg]
    match k, hk with
    | 0, _ => rfl
    | 1, _ => rfl⟩
  refine ⟨fun k => ?_, fun _ => ⟨q, 0, rfl, lq, fun k hk => ?_⟩⟩
  · match k with
    | 0 => exact ⟨by decide, by decide⟩
    | 1 => exact ⟨by decide, by decide⟩
    | 2 => exact ⟨by decide, by decide⟩
    | k + 3 =>
      rw [sy_ge (show exN.length ≤ k + 3 by simp [exN]), ch_ge (show exN.length ≤ k + 3 by simp [exN])]
      exact ⟨Nat.zero_le _, Nat.zero_le _⟩
  · rw [Lib.cell_of_heap hq]
    match k, hk with
    | 0, _ => exact ⟨rfl, none, 0, by rw [Lib.cell_of_heap hq]; rfl, fun h => absurd h (Nat.lt_irrefl 0), Nat.le_refl _, by decide⟩
    | 1, _ => exact ⟨rfl, none, 0, by rw [Lib.cell_of_heap hq]; rfl, fun h => absurd h (Nat.lt_irrefl 0), Nat.le_refl _, by decide⟩
    | 2, _ => exact ⟨rfl, some ⟨g, 0, none⟩, 2, by rw [Lib.cell_of_heap hq]; rfl, e0, Nat.le_refl _, by decide⟩
theorem ex_new (w : World) (n : Nat) (h : n = w.heap.size) : Nodes ((w.alloc (.cells #[.int .i64 0, .int .i64 1] IT)).alloc (.cells (exC n) ST)) ((w.alloc (.cells #[.int .i64 0, .int .i64 1] IT)).alloc (.cells (exC n) ST)).heap.size (some ⟨n + 1, 0, none⟩) exN := by
  subst h
  refine ex_at w _ w.heap.size (w.heap.size + 1) IT ?_ ?_
  · exact (Lib.alloc_old _ _ _ (by simp)).trans (heap_alloc_new w _)
  · have := heap_alloc_new (w.alloc (.cells #[.int .i64 0, .int .i64 1] IT)) (.cells (exC w.heap.size) ST)
    simpa using this
/-- A cell that held u in W0. -/
structure Holds3 (W0 W : World) (f1 f2 f3 : Nat) : Prop where
  below : Below W0.heap.size W0 W
theorem holds_step {W0 W W' : World} {f1 f2 f3 : Nat} {u1 u2 u3 u4 : Value} (l1 : f1 < W0.heap.size) (l2 : f2 < W0.heap.size) (l3 : f3 < W0.heap.size)
    (h : W.cell? ⟨f1, 0, none⟩ = some u1 ∧ W.cell? ⟨f2, 0, none⟩ = some u2 ∧ W.cell? ⟨f3, 0, none⟩ = some u3 ∧ W.cell? ⟨f3, 1, none⟩ = some u4 ∧ Holds3 W0 W f1 f2 f3) (hb : Below W.heap.size W W') :
    W'.cell? ⟨f1, 0, none⟩ = some u1 ∧ W'.cell? ⟨f2, 0, none⟩ = some u2 ∧ W'.cell? ⟨f3, 0, none⟩ = some u3 ∧ W'.cell? ⟨f3, 1, none⟩ = some u4 ∧ Holds3 W0 W' f1 f2 f3 := by
  obtain ⟨h1, h2, h3, h4, h5⟩ := h
  have hz := h5.below.size
  refine ⟨(hb.cell (p := ⟨f1, 0, none⟩) (by show f1 < _; omega)).trans h1, (hb.cell (p := ⟨f2, 0, none⟩) (by show f2 < _; omega)).trans h2, (hb.cell (p := ⟨f3, 0, none⟩) (by show f3 < _; omega)).trans h3, (hb.cell (p := ⟨f3, 1, none⟩) (by show f3 < _; omega)).trans h4, ⟨h5.below.trans (hb.mono hz)⟩⟩

theorem holds_drew {W0 W : World} {f1 f2 f3 : Nat} {u1 u2 u3 u4 : Value}
    (h : W.cell? ⟨f1, 0, none⟩ = some u1 ∧ W.cell? ⟨f2, 0, none⟩ = some u2 ∧ W.cell? ⟨f3, 0, none⟩ = some u3 ∧ W.cell? ⟨f3, 1, none⟩ = some u4 ∧ Holds3 W0 W f1 f2 f3) :
    W.drew.cell? ⟨f1, 0, none⟩ = some u1 ∧ W.drew.cell? ⟨f2, 0, none⟩ = some u2 ∧ W.drew.cell? ⟨f3, 0, none⟩ = some u3 ∧ W.drew.cell? ⟨f3, 1, none⟩ = some u4 ∧ Holds3 W0 W.drew f1 f2 f3 :=
  ⟨h.1, h.2.1, h.2.2.1, h.2.2.2.1, ⟨h.2.2.2.2.below.drew⟩⟩
theorem holds_nodes {W0 W : World} {f1 f2 f3 : Nat} {u1 u2 u3 u4 : Value} {A : Option Addr} {ns : List Nd}
    (h : W.cell? ⟨f1, 0, none⟩ = some u1 ∧ W.cell? ⟨f2, 0, none⟩ = some u2 ∧ W.cell? ⟨f3, 0, none⟩ = some u3 ∧ W.cell? ⟨f3, 1, none⟩ = some u4 ∧ Holds3 W0 W f1 f2 f3) (hn : Nodes W0 W0.heap.size A ns) : Nodes W W.heap.size A ns := hn.to h.2.2.2.2.below h.2.2.2.2.below.size

theorem holds_end {w W0 W : World} {f1 f2 f3 : Nat} {u1 u2 u3 u4 : Value}
    (h : W.cell? ⟨f1, 0, none⟩ = some u1 ∧ W.cell? ⟨f2, 0, none⟩ = some u2 ∧ W.cell? ⟨f3, 0, none⟩ = some u3 ∧ W.cell? ⟨f3, 1, none⟩ = some u4 ∧ Holds3 W0 W f1 f2 f3) (hn : Below w.heap.size w W0) : Below w.heap.size w W := hn.trans (h.2.2.2.2.below.mono hn.size)

set_option maxRecDepth 100000 in
set_option maxHeartbeats 1000000 in
theorem reads_any (w : World) :
    Calls Try.prog 8 #[] w fun e w' => e = .returned (.bool true) ∧ Below w.heap.size w w' := by
  go_enter Try.func8, Try.ntmps8
  go_wp2_with (go_at_call 13; refine (read_ab _).mono ?_)
  rintro e w1 ⟨A1, c1, rfl, hN1, hb1⟩
  have HN1 := Lib.hid hN1
  have HB1 := Lib.hid hb1
  clear hN1 hb1
  go_wp2_with fail
  refine (print_ab _ _ _ ?_).mono ?_
  · exact ex_new (w1.alloc (.cells #[.int .i64 0, .int .i64 0] 25)) (w1.heap.size + 1) (by simp)
  rintro e w2 ⟨rfl, hb2⟩
  have HB2 := Lib.hid hb2
  clear hb2
  go_wp2_with (go_at_call 13; refine (read_bad _).mono ?_)
  rintro e w3 ⟨A3, c3, rfl, hb3⟩
  have HB3 := Lib.hid hb3
  clear hb3
  go_wp2_with fail
  have hY := ex_new (w3.alloc (.cells #[.int .i64 1, .int .i64 2] 25)) (w3.heap.size + 1) (by simp)
  generalize hW : World.alloc (World.alloc (World.alloc w3 _) _) _ = W at hY ⊢
  have hb2 := HB2.out
  have hb3 := HB3.out
  have hb1 := HB1.out
  have hz2 := hb2.size
  have hz3 := hb3.size
  simp only [World.size_alloc] at hz2 hz3
  have hB3 : Below w3.heap.size w3 W := by rw [← hW]; exact (((Below.refl _ _).alloc (Nat.le_refl _) _).alloc (by simp) _).alloc (by simp; omega) _
  have hzW := hB3.size
  have zW : W.heap.size = w3.heap.size + 1 + 1 + 1 := by rw [← hW]; simp
  have F1 : FB W w1.heap.size (.int .i64 0) (.int .i64 0) := by
    have h1 := (((fb_new w1 (.int .i64 0) (.int .i64 0)).below ((Below.refl _ _).alloc (Nat.le_refl _) (.cells #[.int .i64 0, .int .i64 1] IT))).below ((Below.refl _ _).alloc (Nat.le_refl _) (.cells (exC (w1.heap.size + 1)) ST))).below hb2
    exact ((h1.below ((Below.refl _ _).alloc (Nat.le_refl _) _)).below hb3).below hB3
  have F2 : FB W w2.heap.size (.int .i64 0) (.int .i64 0) := ((fb_new w2 (.int .i64 0) (.int .i64 0)).below hb3).below hB3
  have F3 : FB W w3.heap.size (.int .i64 1) (.int .i64 2) := by
    rw [← hW]
    exact ((fb_new w3 (.int .i64 1) (.int .i64 2)).below ((Below.refl _ _).alloc (Nat.le_refl _) _)).below ((Below.refl _ _).alloc (Nat.le_refl _) _)
  have y1 : Below w1.heap.size w1 w2 := (((Below.refl _ w1).alloc (Nat.le_refl _) _).alloc (by simp) _).alloc (by simp; omega) _ |>.trans (hb2.mono (by simp; omega))
  have y2 : Below w2.heap.size w2 w3 := ((Below.refl _ w2).alloc (Nat.le_refl _) _).trans (hb3.mono (by simp))
  have y3 : Below w1.heap.size w1 W := y1.trans ((y2.mono (by omega)).trans (hB3.mono (by omega)))
  have hX : Nodes W W.heap.size A1 exN := HN1.out.to y3 (by omega)
  have HY := Lib.hid hY
  have HX := Lib.hid hX
  have HW := Lib.hid (hb1.trans (y3.mono hb1.size))
  have l1 : w1.heap.size < W.heap.size := by omega
  have l2 : w2.heap.size < W.heap.size := by omega
  have l3 : w3.heap.size < W.heap.size := by omega
  have HH : Holds3 W W w1.heap.size w2.heap.size w3.heap.size := ⟨Below.refl _ _⟩
  have s1 := F1.two.fst
  have s2 := F2.two.fst
  have s3 := F3.two.fst
  have s4 := F3.two.snd
  clear HB1 HB2 HB3 HN1 hW hY hb1 hb2 hb3 hz2 hz3 hB3 hzW zW F1 F2 F3 y1 y2 y3 hX
  generalize w1.heap.size = f1 at *
  generalize w2.heap.size = f2 at *
  generalize w3.heap.size = f3 at *
  go_region_held3 (fun V => V.cell? ⟨f1, 0, none⟩ = some (.int .i64 0) ∧ V.cell? ⟨f2, 0, none⟩ = some (.int .i64 0) ∧ V.cell? ⟨f3, 0, none⟩ = some (.int .i64 1) ∧ V.cell? ⟨f3, 1, none⟩ = some (.int .i64 2) ∧ Holds3 W V f1 f2 f3) (first | (refine ⟨?_, ?_, ?_, ?_, ?_⟩ <;> assumption) | (exact holds_drew ⟨s1, s2, s3, s4, HH⟩) | (exact holds_step l1 l2 l3 (by assumption) (by assumption)))
    (first
      | (go_at_call 17; refine (at_any _ _ _).mono ?_; rintro e w' ⟨rfl, hb⟩)
      | (go_at_call 11; refine (validate_nil _).mono ?_; rintro e w' ⟨rfl, hb⟩)
      | (go_at_call 15; refine (same_ab A1 (some ⟨f3 + 1 + 1, 0, none⟩) c1 3 _ ?_ ?_).mono ?_; (exact holds_nodes (by assumption) HX.out); (exact holds_nodes (by assumption) HY.out); rintro e w' ⟨rfl, hb⟩))
  all_goals
    have HZ := Lib.hid (holds_end (by assumption) HW.out)
    go_wp2
    go_ret
    exact ⟨rfl, HZ.out⟩
end Go.Proofs.Ytbdollafpjejiaa
