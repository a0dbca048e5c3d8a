/- The closed example of the laws on multi-valued tasks: turns is true. -/
import Derived.Test.YthlafcmabeiagaaDoorMct
namespace Go.Proofs.YthlafcmabeiagaaDoor
open Go.RowKit
set_option linter.unusedSimpArgs false
set_option linter.unusedVariables false
set_option maxRecDepth 100000

section
variable {x : MT}
theorem IsSw.eq (h : IsSw x) : ∃ az ai ag ao cz ci cg co, x = ⟨[2], [0], [⟨0, 1⟩], [⟨[⟨0, 0⟩], [⟨0, 1⟩], 4⟩], az, ai, ag, ao, cz, ci, cg, co⟩ := by
  obtain ⟨sizes, init, goal, ops, az, ai, ag, ao, cz, ci, cg, co⟩ := x
  obtain ⟨h1, h2, h3, h4⟩ := h
  simp only at h1 h2 h3 h4
  subst h1 h2 h3 h4
  exact ⟨az, ai, ag, ao, cz, ci, cg, co, rfl⟩
theorem sw1 (h : IsSw x) : ckM x [0] [] = (0, 0) ∧ apL x [0] = [0] := by obtain ⟨az, ai, ag, ao, cz, ci, cg, co, rfl⟩ := h.eq; exact ⟨by kernel_rfl, by kernel_rfl⟩
theorem sw2 (h : IsSw x) : apF x [0] 0 = (0, 0) ∧ apR x [0] 0 = [1] := by obtain ⟨az, ai, ag, ao, cz, ci, cg, co, rfl⟩ := h.eq; exact ⟨by kernel_rfl, by kernel_rfl⟩
theorem sw3 (h : IsSw x) : ckM x x.init [0] = (0, 0) ∧ slB x [0] = true := by obtain ⟨az, ai, ag, ao, cz, ci, cg, co, rfl⟩ := h.eq; exact ⟨by kernel_rfl, by kernel_rfl⟩
theorem sw4 (h : IsSw x) : ckM x x.init [0, 0] = (0, 0) ∧ coN x [0, 0] = 8 := by obtain ⟨az, ai, ag, ao, cz, ci, cg, co, rfl⟩ := h.eq; exact ⟨by kernel_rfl, by kernel_rfl⟩
theorem sw5 (h : IsSw x) : msF x = (0, 0) ∧ smN x.sizes x.sizes.length = 2 ∧ inN x.sizes x.init x.sizes.length = [0] ∧ gvL x.sizes x.goal = [1] ∧ x.ops.map (opS x.sizes) = [⟨[0], [1], [0], 4⟩] := by
  obtain ⟨az, ai, ag, ao, cz, ci, cg, co, rfl⟩ := h.eq; exact ⟨by kernel_rfl, by kernel_rfl, by kernel_rfl, by kernel_rfl, by kernel_rfl⟩
end
def zmt : MT := ⟨[], [], [], [], none, none, none, none, 0, 0, 0, 0⟩
theorem zmt_f : mfF zmt = (2, -1) := rfl
theorem zmt_in (w : World) (B : Nat) : MTIn w B zmt := ⟨lst_nil _ _, lst_nil _ _, ⟨fun h => by simp [zmt] at h, by simp [zmt], by simp [zmt, maxLen]⟩, ⟨fun h => by simp [zmt] at h, by simp [zmt], by simp [zmt, maxLen]⟩, fun _ => rfl⟩
def quadS (g : Nat) (a b c d : Value) : SP := ⟨fun W => Quad W g a b c d, fun _ _ hb h => h.to hb h.lt⟩
def tskS (y : Tsk) : SP := ⟨fun W => TskIn W W.heap.size y, fun _ _ hb h => h.to hb hb.size⟩
def want (u : Nat) : Tsk := ⟨2, [0], [1], [⟨[0], [1], [0], 4⟩], (some ⟨u, 0, none⟩), (some ⟨u + 1, 0, none⟩), (some ⟨u + 1 + 1 + 1 + 1 + 1, 0, none⟩), 1, 1, 1⟩
theorem want_in (w : World) : TskIn (((((((w.alloc (.cells #[.int .i64 0] 3)).alloc (.cells #[.int .i64 1] 3)).alloc (.cells #[.int .i64 0] 3)).alloc (.cells #[.int .i64 1] 3)).alloc (.cells #[.int .i64 0] 3)).alloc (.cells #[.slice (some ⟨w.heap.size + 1 + 1, 0, none⟩) 1 1, .slice (some ⟨w.heap.size + 1 + 1 + 1, 0, none⟩) 1 1, .slice (some ⟨w.heap.size + 1 + 1 + 1 + 1, 0, none⟩) 1 1, .int .i64 4] 52)).alloc (.cells #[.int .i64 2, .slice (some ⟨w.heap.size, 0, none⟩) 1 1, .slice (some ⟨w.heap.size + 1, 0, none⟩) 1 1, .slice (some ⟨w.heap.size + 1 + 1 + 1 + 1 + 1, 0, none⟩) 1 1] 29)) ((((((((w.alloc (.cells #[.int .i64 0] 3)).alloc (.cells #[.int .i64 1] 3)).alloc (.cells #[.int .i64 0] 3)).alloc (.cells #[.int .i64 1] 3)).alloc (.cells #[.int .i64 0] 3)).alloc (.cells #[.slice (some ⟨w.heap.size + 1 + 1, 0, none⟩) 1 1, .slice (some ⟨w.heap.size + 1 + 1 + 1, 0, none⟩) 1 1, .slice (some ⟨w.heap.size + 1 + 1 + 1 + 1, 0, none⟩) 1 1, .int .i64 4] 52)).alloc (.cells #[.int .i64 2, .slice (some ⟨w.heap.size, 0, none⟩) 1 1, .slice (some ⟨w.heap.size + 1, 0, none⟩) 1 1, .slice (some ⟨w.heap.size + 1 + 1 + 1 + 1 + 1, 0, none⟩) 1 1] 29))).heap.size (want w.heap.size) ∧ Quad (((((((w.alloc (.cells #[.int .i64 0] 3)).alloc (.cells #[.int .i64 1] 3)).alloc (.cells #[.int .i64 0] 3)).alloc (.cells #[.int .i64 1] 3)).alloc (.cells #[.int .i64 0] 3)).alloc (.cells #[.slice (some ⟨w.heap.size + 1 + 1, 0, none⟩) 1 1, .slice (some ⟨w.heap.size + 1 + 1 + 1, 0, none⟩) 1 1, .slice (some ⟨w.heap.size + 1 + 1 + 1 + 1, 0, none⟩) 1 1, .int .i64 4] 52)).alloc (.cells #[.int .i64 2, .slice (some ⟨w.heap.size, 0, none⟩) 1 1, .slice (some ⟨w.heap.size + 1, 0, none⟩) 1 1, .slice (some ⟨w.heap.size + 1 + 1 + 1 + 1 + 1, 0, none⟩) 1 1] 29)) (w.heap.size + 1 + 1 + 1 + 1 + 1 + 1) (.int .i64 2) (.slice (some ⟨w.heap.size, 0, none⟩) 1 1) (.slice (some ⟨w.heap.size + 1, 0, none⟩) 1 1) (.slice (some ⟨w.heap.size + 1 + 1 + 1 + 1 + 1, 0, none⟩) 1 1) := by
  have o0 : One (((((((w.alloc (.cells #[.int .i64 0] 3)).alloc (.cells #[.int .i64 1] 3)).alloc (.cells #[.int .i64 0] 3)).alloc (.cells #[.int .i64 1] 3)).alloc (.cells #[.int .i64 0] 3)).alloc (.cells #[.slice (some ⟨w.heap.size + 1 + 1, 0, none⟩) 1 1, .slice (some ⟨w.heap.size + 1 + 1 + 1, 0, none⟩) 1 1, .slice (some ⟨w.heap.size + 1 + 1 + 1 + 1, 0, none⟩) 1 1, .int .i64 4] 52)).alloc (.cells #[.int .i64 2, .slice (some ⟨w.heap.size, 0, none⟩) 1 1, .slice (some ⟨w.heap.size + 1, 0, none⟩) 1 1, .slice (some ⟨w.heap.size + 1 + 1 + 1 + 1 + 1, 0, none⟩) 1 1] 29)) (w.heap.size) (.int .i64 0) := by
    have := one_new w (.int .i64 0) 3
    exact ((((((this.alloc _).alloc _).alloc _).alloc _).alloc _).alloc _)
  have o1 : One (((((((w.alloc (.cells #[.int .i64 0] 3)).alloc (.cells #[.int .i64 1] 3)).alloc (.cells #[.int .i64 0] 3)).alloc (.cells #[.int .i64 1] 3)).alloc (.cells #[.int .i64 0] 3)).alloc (.cells #[.slice (some ⟨w.heap.size + 1 + 1, 0, none⟩) 1 1, .slice (some ⟨w.heap.size + 1 + 1 + 1, 0, none⟩) 1 1, .slice (some ⟨w.heap.size + 1 + 1 + 1 + 1, 0, none⟩) 1 1, .int .i64 4] 52)).alloc (.cells #[.int .i64 2, .slice (some ⟨w.heap.size, 0, none⟩) 1 1, .slice (some ⟨w.heap.size + 1, 0, none⟩) 1 1, .slice (some ⟨w.heap.size + 1 + 1 + 1 + 1 + 1, 0, none⟩) 1 1] 29)) (w.heap.size + 1) (.int .i64 1) := by
    have := one_new (w.alloc (.cells #[.int .i64 0] 3)) (.int .i64 1) 3
    rw [World.size_alloc] at this
    exact (((((this.alloc _).alloc _).alloc _).alloc _).alloc _)
  have o2 : One (((((((w.alloc (.cells #[.int .i64 0] 3)).alloc (.cells #[.int .i64 1] 3)).alloc (.cells #[.int .i64 0] 3)).alloc (.cells #[.int .i64 1] 3)).alloc (.cells #[.int .i64 0] 3)).alloc (.cells #[.slice (some ⟨w.heap.size + 1 + 1, 0, none⟩) 1 1, .slice (some ⟨w.heap.size + 1 + 1 + 1, 0, none⟩) 1 1, .slice (some ⟨w.heap.size + 1 + 1 + 1 + 1, 0, none⟩) 1 1, .int .i64 4] 52)).alloc (.cells #[.int .i64 2, .slice (some ⟨w.heap.size, 0, none⟩) 1 1, .slice (some ⟨w.heap.size + 1, 0, none⟩) 1 1, .slice (some ⟨w.heap.size + 1 + 1 + 1 + 1 + 1, 0, none⟩) 1 1] 29)) (w.heap.size + 1 + 1) (.int .i64 0) := by
    have := one_new ((w.alloc (.cells #[.int .i64 0] 3)).alloc (.cells #[.int .i64 1] 3)) (.int .i64 0) 3
    rw [World.size_alloc, World.size_alloc] at this
    exact ((((this.alloc _).alloc _).alloc _).alloc _)
  have o3 : One (((((((w.alloc (.cells #[.int .i64 0] 3)).alloc (.cells #[.int .i64 1] 3)).alloc (.cells #[.int .i64 0] 3)).alloc (.cells #[.int .i64 1] 3)).alloc (.cells #[.int .i64 0] 3)).alloc (.cells #[.slice (some ⟨w.heap.size + 1 + 1, 0, none⟩) 1 1, .slice (some ⟨w.heap.size + 1 + 1 + 1, 0, none⟩) 1 1, .slice (some ⟨w.heap.size + 1 + 1 + 1 + 1, 0, none⟩) 1 1, .int .i64 4] 52)).alloc (.cells #[.int .i64 2, .slice (some ⟨w.heap.size, 0, none⟩) 1 1, .slice (some ⟨w.heap.size + 1, 0, none⟩) 1 1, .slice (some ⟨w.heap.size + 1 + 1 + 1 + 1 + 1, 0, none⟩) 1 1] 29)) (w.heap.size + 1 + 1 + 1) (.int .i64 1) := by
    have := one_new (((w.alloc (.cells #[.int .i64 0] 3)).alloc (.cells #[.int .i64 1] 3)).alloc (.cells #[.int .i64 0] 3)) (.int .i64 1) 3
    rw [World.size_alloc, World.size_alloc, World.size_alloc] at this
    exact (((this.alloc _).alloc _).alloc _)
  have o4 : One (((((((w.alloc (.cells #[.int .i64 0] 3)).alloc (.cells #[.int .i64 1] 3)).alloc (.cells #[.int .i64 0] 3)).alloc (.cells #[.int .i64 1] 3)).alloc (.cells #[.int .i64 0] 3)).alloc (.cells #[.slice (some ⟨w.heap.size + 1 + 1, 0, none⟩) 1 1, .slice (some ⟨w.heap.size + 1 + 1 + 1, 0, none⟩) 1 1, .slice (some ⟨w.heap.size + 1 + 1 + 1 + 1, 0, none⟩) 1 1, .int .i64 4] 52)).alloc (.cells #[.int .i64 2, .slice (some ⟨w.heap.size, 0, none⟩) 1 1, .slice (some ⟨w.heap.size + 1, 0, none⟩) 1 1, .slice (some ⟨w.heap.size + 1 + 1 + 1 + 1 + 1, 0, none⟩) 1 1] 29)) (w.heap.size + 1 + 1 + 1 + 1) (.int .i64 0) := by
    have := one_new ((((w.alloc (.cells #[.int .i64 0] 3)).alloc (.cells #[.int .i64 1] 3)).alloc (.cells #[.int .i64 0] 3)).alloc (.cells #[.int .i64 1] 3)) (.int .i64 0) 3
    rw [World.size_alloc, World.size_alloc, World.size_alloc, World.size_alloc] at this
    exact ((this.alloc _).alloc _)
  have oq : Quad (((((((w.alloc (.cells #[.int .i64 0] 3)).alloc (.cells #[.int .i64 1] 3)).alloc (.cells #[.int .i64 0] 3)).alloc (.cells #[.int .i64 1] 3)).alloc (.cells #[.int .i64 0] 3)).alloc (.cells #[.slice (some ⟨w.heap.size + 1 + 1, 0, none⟩) 1 1, .slice (some ⟨w.heap.size + 1 + 1 + 1, 0, none⟩) 1 1, .slice (some ⟨w.heap.size + 1 + 1 + 1 + 1, 0, none⟩) 1 1, .int .i64 4] 52)).alloc (.cells #[.int .i64 2, .slice (some ⟨w.heap.size, 0, none⟩) 1 1, .slice (some ⟨w.heap.size + 1, 0, none⟩) 1 1, .slice (some ⟨w.heap.size + 1 + 1 + 1 + 1 + 1, 0, none⟩) 1 1] 29)) (w.heap.size + 1 + 1 + 1 + 1 + 1) (.slice (some ⟨w.heap.size + 1 + 1, 0, none⟩) 1 1) (.slice (some ⟨w.heap.size + 1 + 1 + 1, 0, none⟩) 1 1) (.slice (some ⟨w.heap.size + 1 + 1 + 1 + 1, 0, none⟩) 1 1) (.int .i64 4) := by
    have := quad_new (((((w.alloc (.cells #[.int .i64 0] 3)).alloc (.cells #[.int .i64 1] 3)).alloc (.cells #[.int .i64 0] 3)).alloc (.cells #[.int .i64 1] 3)).alloc (.cells #[.int .i64 0] 3)) (.slice (some ⟨w.heap.size + 1 + 1, 0, none⟩) 1 1) (.slice (some ⟨w.heap.size + 1 + 1 + 1, 0, none⟩) 1 1) (.slice (some ⟨w.heap.size + 1 + 1 + 1 + 1, 0, none⟩) 1 1) (.int .i64 4) 52
    rw [World.size_alloc, World.size_alloc, World.size_alloc, World.size_alloc, World.size_alloc] at this
    exact this.alloc _
  have ot : Quad (((((((w.alloc (.cells #[.int .i64 0] 3)).alloc (.cells #[.int .i64 1] 3)).alloc (.cells #[.int .i64 0] 3)).alloc (.cells #[.int .i64 1] 3)).alloc (.cells #[.int .i64 0] 3)).alloc (.cells #[.slice (some ⟨w.heap.size + 1 + 1, 0, none⟩) 1 1, .slice (some ⟨w.heap.size + 1 + 1 + 1, 0, none⟩) 1 1, .slice (some ⟨w.heap.size + 1 + 1 + 1 + 1, 0, none⟩) 1 1, .int .i64 4] 52)).alloc (.cells #[.int .i64 2, .slice (some ⟨w.heap.size, 0, none⟩) 1 1, .slice (some ⟨w.heap.size + 1, 0, none⟩) 1 1, .slice (some ⟨w.heap.size + 1 + 1 + 1 + 1 + 1, 0, none⟩) 1 1] 29)) (w.heap.size + 1 + 1 + 1 + 1 + 1 + 1) (.int .i64 2) (.slice (some ⟨w.heap.size, 0, none⟩) 1 1) (.slice (some ⟨w.heap.size + 1, 0, none⟩) 1 1) (.slice (some ⟨w.heap.size + 1 + 1 + 1 + 1 + 1, 0, none⟩) 1 1) := by
    have := quad_new ((((((w.alloc (.cells #[.int .i64 0] 3)).alloc (.cells #[.int .i64 1] 3)).alloc (.cells #[.int .i64 0] 3)).alloc (.cells #[.int .i64 1] 3)).alloc (.cells #[.int .i64 0] 3)).alloc (.cells #[.slice (some ⟨w.heap.size + 1 + 1, 0, none⟩) 1 1, .slice (some ⟨w.heap.size + 1 + 1 + 1, 0, none⟩) 1 1, .slice (some ⟨w.heap.size + 1 + 1 + 1 + 1, 0, none⟩) 1 1, .int .i64 4] 52)) (.int .i64 2) (.slice (some ⟨w.heap.size, 0, none⟩) 1 1) (.slice (some ⟨w.heap.size + 1, 0, none⟩) 1 1) (.slice (some ⟨w.heap.size + 1 + 1 + 1 + 1 + 1, 0, none⟩) 1 1) 29
    rw [World.size_alloc, World.size_alloc, World.size_alloc, World.size_alloc, World.size_alloc, World.size_alloc] at this
    exact this
  refine ⟨?_, ot⟩
  clear ot
  generalize (((((((w.alloc (.cells #[.int .i64 0] 3)).alloc (.cells #[.int .i64 1] 3)).alloc (.cells #[.int .i64 0] 3)).alloc (.cells #[.int .i64 1] 3)).alloc (.cells #[.int .i64 0] 3)).alloc (.cells #[.slice (some ⟨w.heap.size + 1 + 1, 0, none⟩) 1 1, .slice (some ⟨w.heap.size + 1 + 1 + 1, 0, none⟩) 1 1, .slice (some ⟨w.heap.size + 1 + 1 + 1 + 1, 0, none⟩) 1 1, .int .i64 4] 52)).alloc (.cells #[.int .i64 2, .slice (some ⟨w.heap.size, 0, none⟩) 1 1, .slice (some ⟨w.heap.size + 1, 0, none⟩) 1 1, .slice (some ⟨w.heap.size + 1 + 1 + 1 + 1 + 1, 0, none⟩) 1 1] 29)) = W at *
  have l : ∀ {g : Nat} {v : Int}, One W g (.int .i64 v) → Lst W W.heap.size (some ⟨g, 0, none⟩) 1 [v] := fun h => lst_cell h.lt h.fst (by omega) (by simp [maxLen])
  refine ⟨l o0, l o1, fun _ => ⟨_, 0, rfl, oq.lt, fun k hk => ?_⟩, by simp [want], by simp [maxLen, want]⟩
  obtain rfl : k = 0 := by simp [want] at hk; omega
  exact ⟨_, _, _, 1, 1, 1, ⟨oq.c0, oq.c1, oq.c2, oq.c3⟩, l o2, l o3, l o4⟩
theorem want_alive {l : List SP} {w : World} (h : Alive l w) : Alive (tskS (want w.heap.size) :: quadS (w.heap.size + 1 + 1 + 1 + 1 + 1 + 1) (.int .i64 2) (.slice (some ⟨w.heap.size, 0, none⟩) 1 1) (.slice (some ⟨w.heap.size + 1, 0, none⟩) 1 1) (.slice (some ⟨w.heap.size + 1 + 1 + 1 + 1 + 1, 0, none⟩) 1 1) :: l) (((((((w.alloc (.cells #[.int .i64 0] 3)).alloc (.cells #[.int .i64 1] 3)).alloc (.cells #[.int .i64 0] 3)).alloc (.cells #[.int .i64 1] 3)).alloc (.cells #[.int .i64 0] 3)).alloc (.cells #[.slice (some ⟨w.heap.size + 1 + 1, 0, none⟩) 1 1, .slice (some ⟨w.heap.size + 1 + 1 + 1, 0, none⟩) 1 1, .slice (some ⟨w.heap.size + 1 + 1 + 1 + 1, 0, none⟩) 1 1, .int .i64 4] 52)).alloc (.cells #[.int .i64 2, .slice (some ⟨w.heap.size, 0, none⟩) 1 1, .slice (some ⟨w.heap.size + 1, 0, none⟩) 1 1, .slice (some ⟨w.heap.size + 1 + 1 + 1 + 1 + 1, 0, none⟩) 1 1] 29)) :=
  Alive.cons _ (want_in w).1 (Alive.cons _ (want_in w).2 (h.to (by go_grown)))
section
variable {x : MT} {w : World} {g : Nat}
theorem apl_ex (hx : IsSw x) (hin : ∀ V, Below w.heap.size w V → MTIn V V.heap.size x) (hg : g = w.heap.size) :
    Calls Tryd.prog 14 #[.agg #[.slice x.az x.sizes.length x.cz, .slice x.ai x.init.length x.ci, .slice x.ag x.goal.length x.cg, .slice x.ao x.ops.length x.co], .slice (some ⟨g, 0, none⟩) 1 1] (w.alloc (.cells #[.int .i64 0] 3)) fun e w' => ∃ a c, e = .returned (.tuple #[.slice a 1 c, .agg #[.int .i64 0, .int .i64 0]]) ∧ Lst w' w'.heap.size a c [0] ∧ Below w.heap.size w w' := by
  subst hg
  have hb := al_b w (.cells #[.int .i64 0] 3)
  have h := mapplicable_any x (some ⟨w.heap.size, 0, none⟩) 1 [0] _ (hin _ hb) (lst_new1 w 0)
  rw [(sw1 hx).1, (sw1 hx).2] at h
  refine h.mono fun e w' ⟨v, he, ho, hb2⟩ => ?_
  obtain ⟨a, c, rfl, hl, _⟩ := own_lst ho
  exact ⟨a, c, he, hl, hb.trans (hb2.mono hb.size)⟩
theorem apy_ex (hx : IsSw x) (hin : ∀ V, Below w.heap.size w V → MTIn V V.heap.size x) (hg : g = w.heap.size) :
    Calls Tryd.prog 7 #[.agg #[.slice x.az x.sizes.length x.cz, .slice x.ai x.init.length x.ci, .slice x.ag x.goal.length x.cg, .slice x.ao x.ops.length x.co], .slice (some ⟨g, 0, none⟩) 1 1, .int .i64 0] (w.alloc (.cells #[.int .i64 0] 3)) fun e w' => ∃ a c, e = .returned (.tuple #[.slice a 1 c, .agg #[.int .i64 0, .int .i64 0]]) ∧ Lst w' w'.heap.size a c [1] ∧ Below w.heap.size w w' := by
  subst hg
  have hb := al_b w (.cells #[.int .i64 0] 3)
  have h := mapply_any x (some ⟨w.heap.size, 0, none⟩) 1 [0] 0 _ (hin _ hb) (lst_new1 w 0) (fun h => by cases h)
  rw [(sw2 hx).1, (sw2 hx).2] at h
  refine h.mono fun e w' ⟨v, he, ho, hb2⟩ => ?_
  obtain ⟨a, c, rfl, hl, _⟩ := own_lst ho
  exact ⟨a, c, he, hl, hb.trans (hb2.mono hb.size)⟩
theorem sol_ex (hx : IsSw x) (hin : ∀ V, Below w.heap.size w V → MTIn V V.heap.size x) (hg : g = w.heap.size) :
    Calls Tryd.prog 16 #[.agg #[.slice x.az x.sizes.length x.cz, .slice x.ai x.init.length x.ci, .slice x.ag x.goal.length x.cg, .slice x.ao x.ops.length x.co], .slice (some ⟨g, 0, none⟩) 1 1] (w.alloc (.cells #[.int .i64 0] 3)) fun e w' => e = .returned (.tuple #[.bool true, .agg #[.int .i64 0, .int .i64 0]]) ∧ Below w.heap.size w w' := by
  subst hg
  have hb := al_b w (.cells #[.int .i64 0] 3)
  have h := msolve_any x (some ⟨w.heap.size, 0, none⟩) 1 [0] _ (hin _ hb) (lst_new1 w 0)
  rw [(sw3 hx).1, (sw3 hx).2] at h
  exact h.mono fun e w' ⟨he, hb2⟩ => ⟨he, hb.trans (hb2.mono hb.size)⟩
theorem cos_ex (hx : IsSw x) (hin : ∀ V, Below w.heap.size w V → MTIn V V.heap.size x) (hg : g = w.heap.size) :
    Calls Tryd.prog 17 #[.agg #[.slice x.az x.sizes.length x.cz, .slice x.ai x.init.length x.ci, .slice x.ag x.goal.length x.cg, .slice x.ao x.ops.length x.co], .slice (some ⟨g, 0, none⟩) 2 2] (w.alloc (.cells #[.int .i64 0, .int .i64 0] 3)) fun e w' => e = .returned (.tuple #[.int .i64 8, .agg #[.int .i64 0, .int .i64 0]]) ∧ Below w.heap.size w w' := by
  subst hg
  have hb := al_b w (.cells #[.int .i64 0, .int .i64 0] 3)
  have h := mcost_any x (some ⟨w.heap.size, 0, none⟩) 2 [0, 0] _ (hin _ hb) (lst_new2 w 0 0)
  rw [(sw4 hx).1, (sw4 hx).2] at h
  exact h.mono fun e w' ⟨he, hb2⟩ => ⟨he, hb.trans (hb2.mono hb.size)⟩
/-- The task that Strips makes of the example. -/
def stT (ai ag ao : Option Addr) (ci cg co : Nat) : Tsk := ⟨2, [0], [1], [⟨[0], [1], [0], 4⟩], ai, ag, ao, ci, cg, co⟩
theorem str_ex (hx : IsSw x) (hin : MTIn w w.heap.size x) :
    Calls Tryd.prog 4 #[.agg #[.slice x.az x.sizes.length x.cz, .slice x.ai x.init.length x.ci, .slice x.ag x.goal.length x.cg, .slice x.ao x.ops.length x.co]] w fun e w' => ∃ ai ag ao ci cg co, e = .returned (.tuple #[.agg #[.int .i64 2, .slice ai 1 ci, .slice ag 1 cg, .slice ao 1 co], .agg #[.int .i64 0, .int .i64 0]]) ∧ TskIn w' w'.heap.size (stT ai ag ao ci cg co) ∧ Below w.heap.size w w' := by
  refine (strips_any x w hin).mono fun e w' ⟨y, he, hy, hb, hc, _⟩ => ?_
  obtain ⟨h1, h2, h3, h4, h5⟩ := sw5 hx
  obtain ⟨e1, e2, e3, e4⟩ := hc (by rw [h1])
  obtain ⟨n, init, goal, ops, ai, ag, ao, ci, cg, co⟩ := y
  simp only at e1 e2 e3 e4
  rw [h2] at e1
  rw [h3] at e2
  rw [h4] at e3
  rw [h5] at e4
  subst e1 e2 e3 e4
  exact ⟨ai, ag, ao, ci, cg, co, by rw [he, h1]; rfl, hy, hb⟩
theorem int_ex {a : Option Addr} {c : Nat} {z : Int} (hl : Lst w w.heap.size a c [z]) (hg : g = w.heap.size) :
    Calls Tryd.prog 9 #[.slice a 1 c, .slice (some ⟨g, 0, none⟩) 1 1] (w.alloc (.cells #[.int .i64 z] 3)) fun e w' => e = .returned (.bool true) ∧ Below w.heap.size w w' := by
  subst hg
  have hb := al_b w (.cells #[.int .i64 z] 3)
  exact (ints_same a _ c 1 [z] [z] rfl _ (hl.to hb hb.size) (lst_new1 w z)).mono fun e w' ⟨he, hb2⟩ => ⟨he, hb.trans (hb2.mono hb.size)⟩
theorem sam_ex {ai ag ao bi bg bo : Option Addr} {ci cg co di dg do_ : Nat} (h : TskIn w w.heap.size (stT ai ag ao ci cg co)) (h2 : TskIn w w.heap.size (stT bi bg bo di dg do_)) :
    Calls Tryd.prog 18 #[.agg #[.int .i64 2, .slice ai 1 ci, .slice ag 1 cg, .slice ao 1 co], .agg #[.int .i64 2, .slice bi 1 di, .slice bg 1 dg, .slice bo 1 do_]] w fun e w' => e = .returned (.bool true) ∧ Below w.heap.size w w' := sameTask_any (stT ai ag ao ci cg co) bi bg bo di dg do_ w h h2
end
set_option maxHeartbeats 8000000 in
theorem turns_any (w : World) : Calls Tryd.prog 5 #[] w fun e w' => e = .returned (.bool true) ∧ Below w.heap.size w w' := by
  have hP := Lib.hid (Alive.cons (belS w) (Below.refl _ w) (Alive.nil w))
  have hzf : mfF zmt = (2, -1) := zmt_f
  go_enter Tryd.func5, Tryd.ntmps5
  go_wp2_with (first | (go_at_call 15; (with_reducible refine (switches_any _).mono ?_); rintro e wK ⟨x1, rfl, hc, hin, hb⟩; have HCT := Lib.hid hc; have HIN := Lib.hid (fun (V : World) (h : Below wK.heap.size wK V) => hin.to h h.size); have hP := Lib.hid (hP.out.to hb); clear hc hin hb) | (go_at_call 14; (with_reducible refine (apl_ex HCT.out HIN.out rfl).mono ?_); rintro e wA ⟨aA, cA, rfl, hl, hb⟩; have hP := Lib.hid (Alive.cons (twoS wA.heap.size (.int .i64 0) (.int .i64 0)) (two_new wA _ _ 31) ((Alive.cons (lstS aA cA [0]) hl (hP.out.to hb)).to (al_b _ _))); clear hl hb) | (go_at_call 7; (with_reducible refine (apy_ex HCT.out HIN.out rfl).mono ?_); rintro e wB ⟨aB, cB, rfl, hl, hb⟩; have hP := Lib.hid (Alive.cons (twoS wB.heap.size (.int .i64 0) (.int .i64 0)) (two_new wB _ _ 31) ((Alive.cons (lstS aB cB [1]) hl (hP.out.to hb)).to (al_b _ _))); clear hl hb) | (go_at_call 16; (with_reducible refine (sol_ex HCT.out HIN.out rfl).mono ?_); rintro e wC ⟨rfl, hb⟩; have hP := Lib.hid (Alive.cons (twoS wC.heap.size (.int .i64 0) (.int .i64 0)) (two_new wC _ _ 31) ((hP.out.to hb).to (al_b _ _))); clear hb) | (go_at_call 17; (with_reducible refine (cos_ex HCT.out HIN.out rfl).mono ?_); rintro e wD ⟨rfl, hb⟩; have hP := Lib.hid (Alive.cons (twoS wD.heap.size (.int .i64 0) (.int .i64 0)) (two_new wD _ _ 31) ((hP.out.to hb).to (al_b _ _))); clear hb) | (go_at_call 4; (with_reducible refine (str_ex HCT.out (HIN.out _ (Below.refl _ _))).mono ?_); rintro e wE ⟨ai, ag, ao, ci, cg, co, rfl, hy, hb⟩; have hP := Lib.hid (Alive.cons (quadS wE.heap.size (.int .i64 2) (.slice ai 1 ci) (.slice ag 1 cg) (.slice ao 1 co)) (quad_new wE _ _ _ _ 29) ((Alive.cons (tskS (stT ai ag ao ci cg co)) hy (hP.out.to hb)).to (al_b _ _))); have hP := Lib.hid (Alive.cons (twoS (wE.heap.size + 1) (.int .i64 0) (.int .i64 0)) (by have := two_new (wE.alloc (.cells #[.int .i64 2, .slice ai 1 ci, .slice ag 1 cg, .slice ao 1 co] 29)) (.int .i64 0) (.int .i64 0) 31; rw [World.size_alloc] at this; exact this) (hP.out.to (al_b _ _))); clear hy hb; have HWB := Lib.hid (want_alive (w := (wE.alloc (.cells #[.int .i64 2, .slice ai 1 ci, .slice ag 1 cg, .slice ao 1 co] 29)).alloc (.cells #[.int .i64 0, .int .i64 0] 31)) hP.out); obtain ⟨_, m0, _, _, _⟩ := (show Two _ wA.heap.size _ _ from HWB.out (twoS wA.heap.size (.int .i64 0) (.int .i64 0)) (by simp)); obtain ⟨_, m1, _, _, _⟩ := (show Two _ wB.heap.size _ _ from HWB.out (twoS wB.heap.size (.int .i64 0) (.int .i64 0)) (by simp)); obtain ⟨_, m2, _, _, _⟩ := (show Two _ wC.heap.size _ _ from HWB.out (twoS wC.heap.size (.int .i64 0) (.int .i64 0)) (by simp)); obtain ⟨_, m3, _, _, _⟩ := (show Two _ wD.heap.size _ _ from HWB.out (twoS wD.heap.size (.int .i64 0) (.int .i64 0)) (by simp)); obtain ⟨_, m4, _, _, _⟩ := (show Two _ (wE.heap.size + 1) _ _ from HWB.out (twoS (wE.heap.size + 1) (.int .i64 0) (.int .i64 0)) (by simp)); simp only [World.size_alloc] at HWB m0 m1 m2 m3 m4; have hP := HWB; clear HWB) | (go_at_call 9; have hLv := Lib.hid (show Lst _ _ aA cA [0] from hP.out (lstS aA cA [0]) (by simp)); (with_reducible refine (int_ex hLv.out (by first | rfl | simp)).mono ?_); rintro e wI ⟨rfl, hb⟩; have hP := Lib.hid (hP.out.to hb); clear hb) | (go_at_call 9; have hLv := Lib.hid (show Lst _ _ aB cB [1] from hP.out (lstS aB cB [1]) (by simp)); (with_reducible refine (int_ex hLv.out (by first | rfl | simp)).mono ?_); rintro e wJ ⟨rfl, hb⟩; have hP := Lib.hid (hP.out.to hb); clear hb; obtain ⟨_, n0, n1, n2, n3, _⟩ := (show Quad wJ wE.heap.size _ _ _ _ from hP.out (quadS wE.heap.size (.int .i64 2) (.slice ai 1 ci) (.slice ag 1 cg) (.slice ao 1 co)) (by simp)); obtain ⟨_, p0, p1, p2, p3, _⟩ := (show Quad wJ (wE.heap.size + 1 + 1 + 1 + 1 + 1 + 1 + 1 + 1) _ _ _ _ from hP.out (quadS (wE.heap.size + 1 + 1 + 1 + 1 + 1 + 1 + 1 + 1) (.int .i64 2) (.slice (some ⟨wE.heap.size + 1 + 1, 0, none⟩) 1 1) (.slice (some ⟨wE.heap.size + 1 + 1 + 1, 0, none⟩) 1 1) (.slice (some ⟨wE.heap.size + 1 + 1 + 1 + 1 + 1 + 1 + 1, 0, none⟩) 1 1)) (by simp))) | (go_at_call 18; have hY1 := Lib.hid (show TskIn _ _ (stT ai ag ao ci cg co) from hP.out (tskS (stT ai ag ao ci cg co)) (by simp)); have hY2 := Lib.hid (show TskIn _ _ (stT (some ⟨wE.heap.size + 1 + 1, 0, none⟩) (some ⟨wE.heap.size + 1 + 1 + 1, 0, none⟩) (some ⟨wE.heap.size + 1 + 1 + 1 + 1 + 1 + 1 + 1, 0, none⟩) 1 1 1) from hP.out (tskS (want (wE.heap.size + 1 + 1))) (by simp)); (with_reducible refine (sam_ex hY1.out hY2.out).mono ?_); rintro e wL ⟨rfl, hb⟩; have hP := Lib.hid (hP.out.to hb); clear hb) | (go_at_call 10; refine (mvalidate_any zmt _ (zmt_in _ _)).mono ?_; rintro e wV ⟨rfl, hb⟩; have hP := Lib.hid (hP.out.to hb); clear hb) | (go_at_call 19; refine (at_any _ _ _).mono ?_; rintro e wX ⟨rfl, hb⟩; have hP := Lib.hid (hP.out.to hb); clear hb))
  go_ret
  exact ⟨rfl, hP.out (belS w) (by simp)⟩
end Go.Proofs.YthlafcmabeiagaaDoor
