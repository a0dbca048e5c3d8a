/- The closed example of the laws on multi-valued tasks: turns is true. -/
import Derived.Test.YtenmegkokclolaaDoorMct
namespace Go.Proofs.YtenmegkokclolaaDoor
open Go.RowKit
set_option linter.unusedSimpArgs false
set_option linter.unusedVariables false
set_option maxRecDepth 100000

section
variable {x : MT}
theorem IsSw.eq (h : IsSw x) : ∃ az ai ag ao cz ci cg co, x = ⟨[2], [0], [⟨0, 1⟩], [⟨[⟨0, 0⟩], [⟨0, 1⟩], 4⟩], az, ai, ag, ao, cz, ci, cg, co⟩ := by
  obtain ⟨sizes, init, goal, ops, az, ai, ag, ao, cz, ci, cg, co⟩ := x
  obtain ⟨h1, h2, h3, h4⟩ := h
  simp only at h1 h2 h3 h4
  subst h1 h2 h3 h4
  exact ⟨az, ai, ag, ao, cz, ci, cg, co, rfl⟩
theorem sw1 (h : IsSw x) : ckM x [0] [] = (0, 0) ∧ apL x [0] = [0] := by obtain ⟨az, ai, ag, ao, cz, ci, cg, co, rfl⟩ := h.eq; exact ⟨by kernel_rfl, by kernel_rfl⟩
theorem sw2 (h : IsSw x) : apF x [0] 0 = (0, 0) ∧ apR x [0] 0 = [1] := by obtain ⟨az, ai, ag, ao, cz, ci, cg, co, rfl⟩ := h.eq; exact ⟨by kernel_rfl, by kernel_rfl⟩
theorem sw3 (h : IsSw x) : ckM x x.init [0] = (0, 0) ∧ slB x [0] = true := by obtain ⟨az, ai, ag, ao, cz, ci, cg, co, rfl⟩ := h.eq; exact ⟨by kernel_rfl, by kernel_rfl⟩
theorem sw4 (h : IsSw x) : ckM x x.init [0, 0] = (0, 0) ∧ coN x [0, 0] = 8 := by obtain ⟨az, ai, ag, ao, cz, ci, cg, co, rfl⟩ := h.eq; exact ⟨by kernel_rfl, by kernel_rfl⟩
theorem sw5 (h : IsSw x) : msF x = (0, 0) ∧ smN x.sizes x.sizes.length = 2 ∧ inN x.sizes x.init x.sizes.length = [0] ∧ gvL x.sizes x.goal = [1] ∧ x.ops.map (opS x.sizes) = [⟨[0], [1], [0], 4⟩] := by
  obtain ⟨az, ai, ag, ao, cz, ci, cg, co, rfl⟩ := h.eq; exact ⟨by kernel_rfl, by kernel_rfl, by kernel_rfl, by kernel_rfl, by kernel_rfl⟩
end
def zmt : MT := ⟨[], [], [], [], none, none, none, none, 0, 0, 0, 0⟩
theorem zmt_f : mfF zmt = (2, -1) := rfl
theorem zmt_in (w : World) (B : Nat) : MTIn w B zmt := ⟨lst_nil _ _, lst_nil _ _, ⟨fun h => by simp [zmt] at h, by simp [zmt], by simp [zmt, maxLen]⟩, ⟨fun h => by simp [zmt] at h, by simp [zmt], by simp [zmt, maxLen]⟩, fun _ => rfl⟩
def quadS (g : Nat) (a b c d : Value) : SP := ⟨fun W => Quad W g a b c d, fun _ _ hb h => h.to hb h.lt⟩
def tskS (y : Tsk) : SP := ⟨fun W => TskIn W W.heap.size y, fun _ _ hb h => h.to hb hb.size⟩
def want (u : Nat) : Tsk := ⟨2, [0], [1], [⟨[0], [1], [0], 4⟩], (some ⟨u, 0, none⟩), (some ⟨u + 1, 0, none⟩), (some ⟨u + 1 + 1 + 1 + 1 + 1, 0, none⟩), 1, 1, 1⟩
theorem want_in (w : World) : TskIn (((((((w.alloc (.cells #[.int .i64 0] 3)).alloc (.cells #[.int .i64 1] 3)).alloc (.cells #[.int .i64 0] 3)).alloc (.cells #[.int .i64 1] 3)).alloc (.cells #[.int .i64 0] 3)).alloc (.cells #[.slice (some ⟨w.heap.size + 1 + 1, 0, none⟩) 1 1, .slice (some ⟨w.heap.size + 1 + 1 + 1, 0, none⟩) 1 1, .slice (some ⟨w.heap.size + 1 + 1 + 1 + 1, 0, none⟩) 1 1, .int .i64 4] 55)).alloc (.cells #[.int .i64 2, .slice (some ⟨w.heap.size, 0, none⟩) 1 1, .slice (some ⟨w.heap.size + 1, 0, none⟩) 1 1, .slice (some ⟨w.heap.size + 1 + 1 + 1 + 1 + 1, 0, none⟩) 1 1] 25)) ((((((((w.alloc (.cells #[.int .i64 0] 3)).alloc (.cells #[.int .i64 1] 3)).alloc (.cells #[.int .i64 0] 3)).alloc (.cells #[.int .i64 1] 3)).alloc (.cells #[.int .i64 0] 3)).alloc (.cells #[.slice (some ⟨w.heap.size + 1 + 1, 0, none⟩) 1 1, .slice (some ⟨w.heap.size + 1 + 1 + 1, 0, none⟩) 1 1, .slice (some ⟨w.heap.size + 1 + 1 + 1 + 1, 0, none⟩) 1 1, .int .i64 4] 55)).alloc (.cells #[.int .i64 2, .slice (some ⟨w.heap.size, 0, none⟩) 1 1, .slice (some ⟨w.heap.size + 1, 0, none⟩) 1 1, .slice (some ⟨w.heap.size + 1 + 1 + 1 + 1 + 1, 0, none⟩) 1 1] 25))).heap.size (want w.heap.size) ∧ Quad (((((((w.alloc (.cells #[.int .i64 0] 3)).alloc (.cells #[.int .i64 1] 3)).alloc (.cells #[.int .i64 0] 3)).alloc (.cells #[.int .i64 1] 3)).alloc (.cells #[.int .i64 0] 3)).alloc (.cells #[.slice (some ⟨w.heap.size + 1 + 1, 0, none⟩) 1 1, .slice (some ⟨w.heap.size + 1 + 1 + 1, 0, none⟩) 1 1, .slice (some ⟨w.heap.size + 1 + 1 + 1 + 1, 0, none⟩) 1 1, .int .i64 4] 55)).alloc (.cells #[.int .i64 2, .slice (some ⟨w.heap.size, 0, none⟩) 1 1, .slice (some ⟨w.heap.size + 1, 0, none⟩) 1 1, .slice (some ⟨w.heap.size + 1 + 1 + 1 + 1 + 1, 0, none⟩) 1 1] 25)) (w.heap.size + 1 + 1 + 1 + 1 + 1 + 1) (.int .i64 2) (.slice (some ⟨w.heap.size, 0, none⟩) 1 1) (.slice (some ⟨w.heap.size + 1, 0, none⟩) 1 1) (.slice (some ⟨w.heap.size + 1 + 1 + 1 + 1 + 1, 0, none⟩) 1 1) := by
  have o0 : One (((((((w.alloc (.cells #[.int .i64 0] 3)).alloc (.cells #[.int .i64 1] 3)).alloc (.cells #[.int .i64 0] 3)).alloc (.cells #[.int .i64 1] 3)).alloc (.cells #[.int .i64 0] 3)).alloc (.cells #[.slice (some ⟨w.heap.size + 1 + 1, 0, none⟩) 1 1, .slice (some ⟨w.heap.size + 1 + 1 + 1, 0, none⟩) 1 1, .slice (some ⟨w.heap.size + 1 + 1 + 1 + 1, 0, none⟩) 1 1, .int .i64 4] 55)).alloc (.cells #[.int .i64 2, .slice (some ⟨w.heap.size, 0, none⟩) 1 1, .slice (some ⟨w.heap.size + 1, 0, none⟩) 1 1, .slice (some ⟨w.heap.size + 1 + 1 + 1 + 1 + 1, 0, none⟩) 1 1] 25)) (w.heap.size) (.int .i64 0) := by
    have := one_new w (.int .i64 0) 3
    exact ((((((this.alloc _).alloc _).alloc _).alloc _).alloc _).alloc _)
  have o1 : One (((((((w.alloc (.cells #[.int .i64 0] 3)).alloc (.cells #[.int .i64 1] 3)).alloc (.cells #[.int .i64 0] 3)).alloc (.cells #[.int .i64 1] 3)).alloc (.cells #[.int .i64 0] 3)).alloc (.cells #[.slice (some ⟨w.heap.size + 1 + 1, 0, none⟩) 1 1, .slice (some ⟨w.heap.size + 1 + 1 + 1, 0, none⟩) 1 1, .slice (some ⟨w.heap.size + 1 + 1 + 1 + 1, 0, none⟩) 1 1, .int .i64 4] 55)).alloc (.cells #[.int .i64 2, .slice (some ⟨w.heap.size, 0, none⟩) 1 1, .slice (some ⟨w.heap.size + 1, 0, none⟩) 1 1, .slice (some ⟨w.heap.size + 1 + 1 + 1 + 1 + 1, 0, none⟩) 1 1] 25)) (w.heap.size + 1) (.int .i64 1) := by
    have := one_new (w.alloc (.cells #[.int .i64 0] 3)) (.int .i64 1) 3
    rw [World.size_alloc] at this
    exact (((((this.alloc _).alloc _).alloc _).alloc _).alloc _)
  have o2 : One (((((((w.alloc (.cells #[.int .i64 0] 3)).alloc (.cells #[.int .i64 1] 3)).alloc (.cells #[.int .i64 0] 3)).alloc (.cells #[.int .i64 1] 3)).alloc (.cells #[.int .i64 0] 3)).alloc (.cells #[.slice (some ⟨w.heap.size + 1 + 1, 0, none⟩) 1 1, .slice (some ⟨w.heap.size + 1 + 1 + 1, 0, none⟩) 1 1, .slice (some ⟨w.heap.size + 1 + 1 + 1 + 1, 0, none⟩) 1 1, .int .i64 4] 55)).alloc (.cells #[.int .i64 2, .slice (some ⟨w.heap.size, 0, none⟩) 1 1, .slice (some ⟨w.heap.size + 1, 0, none⟩) 1 1, .slice (some ⟨w.heap.size + 1 + 1 + 1 + 1 + 1, 0, none⟩) 1 1] 25)) (w.heap.size + 1 + 1) (.int .i64 0) := by
    have := one_new ((w.alloc (.cells #[.int .i64 0] 3)).alloc (.cells #[.int .i64 1] 3)) (.int .i64 0) 3
    rw [World.size_alloc, World.size_alloc] at this
    exact ((((this.alloc _).alloc _).alloc _).alloc _)
  have o3 : One (((((((w.alloc (.cells #[.int .i64 0] 3)).alloc (.cells #[.int .i64 1] 3)).alloc (.cells #[.int .i64 0] 3)).alloc (.cells #[.int .i64 1] 3)).alloc (.cells #[.int .i64 0] 3)).alloc (.cells #[.slice (some ⟨w.heap.size + 1 + 1, 0, none⟩) 1 1, .slice (some ⟨w.heap.size + 1 + 1 + 1, 0, none⟩) 1 1, .slice (some ⟨w.heap.size + 1 + 1 + 1 + 1, 0, none⟩) 1 1, .int .i64 4] 55)).alloc (.cells #[.int .i64 2, .slice (some ⟨w.heap.size, 0, none⟩) 1 1, .slice (some ⟨w.heap.size + 1, 0, none⟩) 1 1, .slice (some ⟨w.heap.size + 1 + 1 + 1 + 1 + 1, 0, none⟩) 1 1] 25)) (w.heap.size + 1 + 1 + 1) (.int .i64 1) := by
    have := one_new (((w.alloc (.cells #[.int .i64 0] 3)).alloc (.cells #[.int .i64 1] 3)).alloc (.cells #[.int .i64 0] 3)) (.int .i64 1) 3
    rw [World.size_alloc, World.size_alloc, World.size_alloc] at this
    exact (((this.alloc _).alloc _).alloc _)
  have o4 : One (((((((w.alloc (.cells #[.int .i64 0] 3)).alloc (.cells #[.int .i64 1] 3)).alloc (.cells #[.int .i64 0] 3)).alloc (.cells #[.int .i64 1] 3)).alloc (.cells #[.int .i64 0] 3)).alloc (.cells #[.slice (some ⟨w.heap.size + 1 + 1, 0, none⟩) 1 1, .slice (some ⟨w.heap.size + 1 + 1 + 1, 0, none⟩) 1 1, .slice (some ⟨w.heap.size + 1 + 1 + 1 + 1, 0, none⟩) 1 1, .int .i64 4] 55)).alloc (.cells #[.int .i64 2, .slice (some ⟨w.heap.size, 0, none⟩) 1 1, .slice (some ⟨w.heap.size + 1, 0, none⟩) 1 1, .slice (some ⟨w.heap.size + 1 + 1 + 1 + 1 + 1, 0, none⟩) 1 1] 25)) (w.heap.size + 1 + 1 + 1 + 1) (.int .i64 0) := by
    have := one_new ((((w.alloc (.cells #[.int .i64 0] 3)).alloc (.cells #[.int .i64 1] 3)).alloc (.cells #[.int .i64 0] 3)).alloc (.cells #[.int .i64 1] 3)) (.int .i64 0) 3
    rw [World.size_alloc, World.size_alloc, World.size_alloc, World.size_alloc] at this
    exact ((this.alloc _).alloc _)
  have oq : Quad (((((((w.alloc (.cells #[.int .i64 0] 3)).alloc (.cells #[.int .i64 1] 3)).alloc (.cells #[.int .i64 0] 3)).alloc (.cells #[.int .i64 1] 3)).alloc (.cells #[.int .i64 0] 3)).alloc (.cells #[.slice (some ⟨w.heap.size + 1 + 1, 0, none⟩) 1 1, .slice (some ⟨w.heap.size + 1 + 1 + 1, 0, none⟩) 1 1, .slice (some ⟨w.heap.size + 1 + 1 + 1 + 1, 0, none⟩) 1 1, .int .i64 4] 55)).alloc (.cells #[.int .i64 2, .slice (some ⟨w.heap.size, 0, none⟩) 1 1, .slice (some ⟨w.heap.size + 1, 0, none⟩) 1 1, .slice (some ⟨w.heap.size + 1 + 1 + 1 + 1 + 1, 0, none⟩) 1 1] 25)) (w.heap.size + 1 + 1 + 1 + 1 + 1) (.slice (some ⟨w.heap.size + 1 + 1, 0, none⟩) 1 1) (.slice (some ⟨w.heap.size + 1 + 1 + 1, 0, none⟩) 1 1) (.slice (some ⟨w.heap.size + 1 + 1 + 1 + 1, 0, none⟩) 1 1) (.int .i64 4) := by
    have := quad_new (((((w.alloc (.cells #[.int .i64 0] 3)).alloc (.cells #[.int .i64 1] 3)).alloc (.cells #[.int .i64 0] 3)).alloc (.cells #[.int .i64 1] 3)).alloc (.cells #[.int .i64 0] 3)) (.slice (some ⟨w.heap.size + 1 + 1, 0, none⟩) 1 1) (.slice (some ⟨w.heap.size + 1 + 1 + 1, 0, none⟩) 1 1) (.slice (some ⟨w.heap.size + 1 + 1 + 1 + 1, 0, none⟩) 1 1) (.int .i64 4) 55
    rw [World.size_alloc, World.size_alloc, World.size_alloc, World.size_alloc, World.size_alloc] at this
    exact this.alloc _
  have ot : Quad (((((((w.alloc (.cells #[.int .i64 0] 3)).alloc (.cells #[.int .i64 1] 3)).alloc (.cells #[.int .i64 0] 3)).alloc (.cells #[.int .i64 1] 3)).alloc (.cells #[.int .i64 0] 3)).alloc (.cells #[.slice (some ⟨w.heap.size + 1 + 1, 0, none⟩) 1 1, .slice (some ⟨w.heap.size + 1 + 1 + 1, 0, none⟩) 1 1, .slice (some ⟨w.heap.size + 1 + 1 + 1 + 1, 0, none⟩) 1 1, .int .i64 4] 55)).alloc (.cells #[.int .i64 2, .slice (some ⟨w.heap.size, 0, none⟩) 1 1, .slice (some ⟨w.heap.size + 1, 0, none⟩) 1 1, .slice (some ⟨w.heap.size + 1 + 1 + 1 + 1 + 1, 0, none⟩) 1 1] 25)) (w.heap.size + 1 + 1 + 1 + 1 + 1 + 1) (.int .i64 2) (.slice (some ⟨w.heap.size, 0, none⟩) 1 1) (.slice (some ⟨w.heap.size + 1, 0, none⟩) 1 1) (.slice (some ⟨w.heap.size + 1 + 1 + 1 + 1 + 1, 0, none⟩) 1 1) := by
    have := quad_new ((((((w.alloc (.cells #[.int .i64 0] 3)).alloc (.cells #[.int .i64 1] 3)).alloc (.cells #[.int .i64 0] 3)).alloc (.cells #[.int .i64 1] 3)).alloc (.cells #[.int .i64 0] 3)).alloc (.cells #[.slice (some ⟨w.heap.size + 1 + 1, 0, none⟩) 1 1, .slice (some ⟨w.heap.size + 1 + 1 + 1, 0, none⟩) 1 1, .slice (some ⟨w.heap.size + 1 + 1 + 1 + 1, 0, none⟩) 1 1, .int .i64 4] 55)) (.int .i64 2) (.slice (some ⟨w.heap.size, 0, none⟩) 1 1) (.slice (some ⟨w.heap.size + 1, 0, none⟩) 1 1) (.slice (some ⟨w.heap.size + 1 + 1 + 1 + 1 + 1, 0, none⟩) 1 1) 25
    rw [World.size_alloc, World.size_alloc, World.size_alloc, World.size_alloc, World.size_alloc, World.size_alloc] at this
    exact this
  refine ⟨?_, ot⟩
  clear ot
  generalize (((((((w.alloc (.cells #[.int .i64 0] 3)).alloc (.cells #[.int .i64 1] 3)).alloc (.cells #[.int .i64 0] 3)).alloc (.cells #[.int .i64 1] 3)).alloc (.cells #[.int .i64 0] 3)).alloc (.cells #[.slice (some ⟨w.heap.size + 1 + 1, 0, none⟩) 1 1, .slice (some ⟨w.heap.size + 1 + 1 + 1, 0, none⟩) 1 1, .slice (some ⟨w.heap.size + 1 + 1 + 1 + 1, 0, none⟩) 1 1, .int .i64 4] 55)).alloc (.cells #[.int .i64 2, .slice (some ⟨w.heap.size, 0, none⟩) 1 1, .slice (some ⟨w.heap.size + 1, 0, none⟩) 1 1, .slice (some ⟨w.heap.size + 1 + 1 + 1 + 1 + 1, 0, none⟩) 1 1] 25)) = W at *
  have l : ∀ {g : Nat} {v : Int}, One W g (.int .i64 v) → Lst W W.heap.size (some ⟨g, 0, none⟩) 1 [v] := fun h => lst_cell h.lt h.fst (by omega) (by simp [maxLen])
  refine ⟨l o0, l o1, fun _ => ⟨_, 0, rfl, oq.lt, fun k hk => ?_⟩, by simp [want], by simp [maxLen, want]⟩
  obtain rfl : k = 0 := by simp [want] at hk; omega
  exact ⟨_, _, _, 1, 1, 1, ⟨oq.c0, oq.c1, oq.c2, oq.c3⟩, l o2, l o3, l o4⟩
theorem want_alive {l : List SP} {w : World} (h : Alive l w) : Alive (tskS (want w.heap.size) :: quadS (w.heap.size + 1 + 1 + 1 + 1 + 1 + 1) (.int .i64 2) (.slice (some ⟨w.heap.size, 0, none⟩) 1 1) (.slice (some ⟨w.heap.size + 1, 0, none⟩) 1 1) (.slice (some ⟨w.heap.size + 1 + 1 + 1 + 1 + 1, 0, none⟩) 1 1) :: l) (((((((w.alloc (.cells #[.int .i64 0] 3)).alloc (.cells #[.int .i64 1] 3)).alloc (.cells #[.int .i64 0] 3)).alloc (.cells #[.int .i64 1] 3)).alloc (.cells #[.int .i64 0] 3)).alloc (.cells #[.slice (some ⟨w.heap.size + 1 + 1, 0, none⟩) 1 1, .slice (some ⟨w.heap.size + 1 + 1 + 1, 0, none⟩) 1 1, .slice (some ⟨w.heap.size + 1 + 1 + 1 + 1, 0, none⟩) 1 1, .int .i64 4] 55)).alloc (.cells #[.int .i64 2, .slice (some ⟨w.heap.size, 0, none⟩) 1 1, .slice (some ⟨w.heap.size + 1, 0, none⟩) 1 1, .slice (some ⟨w.heap.size + 1 + 1 + 1 + 1 + 1, 0, none⟩) 1 1] 25)) :=
  Alive.cons _ (want_in w).1 (Alive.cons _ (want_in w).2 (h.to (by go_grown)))
section
variable {x : MT} {w : World} {g : Nat}
/-- The task that Strips makes of the example. -/
def stT (ai ag ao : Option Addr) (ci cg co : Nat) : Tsk := ⟨2, [0], [1], [⟨[0], [1], [0], 4⟩], ai, ag, ao, ci, cg, co⟩
theorem str_ex (hx : IsSw x) (hin : MTIn w w.heap.size x) :
    Calls Tryd.prog 22 #[.agg #[.slice x.az x.sizes.length x.cz, .slice x.ai x.init.length x.ci, .slice x.ag x.goal.length x.cg, .slice x.ao x.ops.length x.co]] w fun e w' => ∃ ai ag ao ci cg co, e = .returned (.tuple #[.agg #[.int .i64 2, .slice ai 1 ci, .slice ag 1 cg, .slice ao 1 co], .agg #[.int .i64 0, .int .i64 0]]) ∧ TskIn w' w'.heap.size (stT ai ag ao ci cg co) ∧ Below w.heap.size w w' := by
  refine (strips_any x w hin).mono fun e w' ⟨y, he, hy, hb, hc, _⟩ => ?_
  obtain ⟨h1, h2, h3, h4, h5⟩ := sw5 hx
  obtain ⟨e1, e2, e3, e4⟩ := hc (by rw [h1])
  obtain ⟨n, init, goal, ops, ai, ag, ao, ci, cg, co⟩ := y
  simp only at e1 e2 e3 e4
  rw [h2] at e1
  rw [h3] at e2
  rw [h4] at e3
  rw [h5] at e4
  subst e1 e2 e3 e4
  exact ⟨ai, ag, ao, ci, cg, co, by rw [he, h1]; rfl, hy, hb⟩
theorem int_ex {a : Option Addr} {c : Nat} {z : Int} (hl : Lst w w.heap.size a c [z]) (hg : g = w.heap.size) :
    Calls Tryd.prog 34 #[.slice a 1 c, .slice (some ⟨g, 0, none⟩) 1 1] (w.alloc (.cells #[.int .i64 z] 3)) fun e w' => e = .returned (.bool true) ∧ Below w.heap.size w w' := by
  subst hg
  have hb := al_b w (.cells #[.int .i64 z] 3)
  exact (ints_same a _ c 1 [z] [z] rfl _ (hl.to hb hb.size) (lst_new1 w z)).mono fun e w' ⟨he, hb2⟩ => ⟨he, hb.trans (hb2.mono hb.size)⟩
end
end Go.Proofs.YtenmegkokclolaaDoor
