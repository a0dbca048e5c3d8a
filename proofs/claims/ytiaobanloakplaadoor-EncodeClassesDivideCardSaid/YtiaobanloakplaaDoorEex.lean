/- The closed example of package encode: pure facts, and its calls. -/
import Derived.Test.YtiaobanloakplaaDoorEsm
import Derived.Test.YtiaobanloakplaaDoorVgr
import Derived.Test.YtiaobanloakplaaDoorEmh
namespace Go.Proofs.YtiaobanloakplaaDoor
open Go.RowKit
set_option linter.unusedSimpArgs false
set_option linter.unusedVariables false
set_option maxRecDepth 100000

section
variable {x : Tsk}
theorem ex_cov (h : IsEx x) : gfF x [[0, 1]] = (0, 0) ∧ covR x [[0, 1]] = [[0, 1], [2]] := by
  obtain ⟨ai, ag, ao, ci, cg, co, rfl⟩ := h.eq
  exact ⟨by kernel_rfl, by kernel_rfl⟩
def exMu : MuT := ⟨[3, 2], [0, 1], [⟨1, 0⟩], [⟨[⟨0, 0⟩], [⟨0, 1⟩], 2⟩, ⟨[⟨0, 1⟩], [⟨0, 2⟩, ⟨1, 0⟩], 3⟩], [0, 1]⟩
theorem ex_mu (h : IsEx x) : muF x [[0, 1]] = (0, 0) ∧ muT x [[0, 1]] = exMu := by
  obtain ⟨ai, ag, ao, ci, cg, co, rfl⟩ := h.eq
  exact ⟨by kernel_rfl, by kernel_rfl⟩
theorem ex_se (h : IsEx x) : seF x [[0, 1]] [1] = (0, 0) ∧ seR x [[0, 1]] [1] = [1, 1] := by
  obtain ⟨ai, ag, ao, ci, cg, co, rfl⟩ := h.eq
  exact ⟨by kernel_rfl, by kernel_rfl⟩
end
def oneT : Tsk := ⟨1, [], [], [], none, none, none, 0, 0, 0⟩
theorem ex_one : gfF oneT [[1]] = (5, -8) ∧ covR oneT [[1]] = [] := ⟨by kernel_rfl, by kernel_rfl⟩
theorem oneT_in (w : World) : TskIn w w.heap.size oneT :=
  ⟨⟨nums_nil _ _ _, by simp [oneT], by simp [maxLen, oneT]⟩, ⟨nums_nil _ _ _, by simp [oneT], by simp [maxLen, oneT]⟩, fun h => by simp [oneT] at h, by simp [oneT], by simp [maxLen, oneT]⟩
theorem rws_one {V : World} {g c : Nat} {l : List Int} (hl : Lst V V.heap.size (some ⟨g, 0, none⟩) c l) : Rws (V.alloc (.cells #[.slice (some ⟨g, 0, none⟩) l.length c] 22)) (V.alloc (.cells #[.slice (some ⟨g, 0, none⟩) l.length c] 22)).heap.size (some ⟨V.heap.size, 0, none⟩) [l] := by
  intro _
  refine ⟨V.heap.size, 0, rfl, by simp, fun k hk => ?_⟩
  have hk : k = 0 := by simpa using hk
  subst hk
  exact ⟨some ⟨g, 0, none⟩, c, by simp [rw_], hl.to (al_b _ _) (by simp)⟩
theorem wl_rws (w : World) : Rws ((((w).alloc (.cells #[.int .i64 0, .int .i64 1] 3))).alloc (.cells #[.slice (some ⟨w.heap.size, 0, none⟩) 2 2] 22)) (((((w).alloc (.cells #[.int .i64 0, .int .i64 1] 3))).alloc (.cells #[.slice (some ⟨w.heap.size, 0, none⟩) 2 2] 22))).heap.size (some ⟨w.heap.size + 1, 0, none⟩) [[0, 1]] ∧ Below w.heap.size w ((((w).alloc (.cells #[.int .i64 0, .int .i64 1] 3))).alloc (.cells #[.slice (some ⟨w.heap.size, 0, none⟩) 2 2] 22)) := by
  have h := rws_one (l := [0, 1]) (lst_new2 w 0 1)
  exact ⟨by simpa using h, by go_grown⟩
section
variable {x : Tsk} {w : World}
theorem cov_ex (hx : IsEx x) (ht : TskIn w w.heap.size x) (hT : TabIn w) :
    Calls Tryd.prog 9 #[.agg #[.int .i64 x.n, .slice x.ai x.init.length x.ci, .slice x.ag x.goal.length x.cg, .slice x.ao x.ops.length x.co], .slice (some ⟨w.heap.size + 1, 0, none⟩) 1 1] ((((w).alloc (.cells #[.int .i64 0, .int .i64 1] 3))).alloc (.cells #[.slice (some ⟨w.heap.size, 0, none⟩) 2 2] 22)) fun e w' => ∃ a c, e = .returned (.tuple #[.slice a 2 c, .agg #[.int .i64 0, .int .i64 0]]) ∧ Rws w' w'.heap.size a [[0, 1], [2]] ∧ Below w.heap.size w w' := by
  obtain ⟨hr, hb⟩ := wl_rws w
  refine (cover_any x [[0, 1]] _ 1 _ (ht.to hb hb.size) hr (by simp) (by simp [maxLen]) (hT.to hb (Nat.le_refl _))).mono ?_
  rintro e w' ⟨v, rfl, hb2, hon⟩
  rw [(ex_cov hx).2] at hon
  rw [(ex_cov hx).1]
  obtain ⟨a, c, rfl, hr2, _, _⟩ := hon.out
  exact ⟨a, c, rfl, hr2.rws, hb.trans (hb2.mono hb.size)⟩
theorem mul_ex (hx : IsEx x) (ht : TskIn w w.heap.size x) (hT : TabIn w) :
    Calls Tryd.prog 14 #[.agg #[.int .i64 x.n, .slice x.ai x.init.length x.ci, .slice x.ag x.goal.length x.cg, .slice x.ao x.ops.length x.co], .slice (some ⟨w.heap.size + 1, 0, none⟩) 1 1] ((((w).alloc (.cells #[.int .i64 0, .int .i64 1] 3))).alloc (.cells #[.slice (some ⟨w.heap.size, 0, none⟩) 2 2] 22)) fun e w' => ∃ az ai ag ao af cz ci cg co cf, e = .returned (.tuple #[.agg #[.slice az 2 cz, .slice ai 2 ci, .slice ag 1 cg, .slice ao 2 co], .slice af 2 cf, .agg #[.int .i64 0, .int .i64 0]]) ∧ MTIn w' w'.heap.size ⟨exMu.sizes, exMu.init, exMu.goal, exMu.ops, az, ai, ag, ao, cz, ci, cg, co⟩ ∧ Lst w' w'.heap.size af cf [0, 1] ∧ Below w.heap.size w w' := by
  obtain ⟨hr, hb⟩ := wl_rws w
  refine (multi_any x [[0, 1]] _ 1 _ (ht.to hb hb.size) hr (by simp) (by simp [maxLen]) (hT.to hb (Nat.le_refl _))).mono ?_
  rintro e w' ⟨vz, vi, vg, vo, vf, rfl, hb2, hon⟩
  rw [(ex_mu hx).2] at hon
  rw [(ex_mu hx).1]
  obtain ⟨⟨az, cz, rfl, h1⟩, ⟨ai, ci, rfl, h2⟩, ⟨ag, cg, rfl, h3⟩, ⟨ao, co, rfl, h4⟩, ⟨af, cf, rfl, h5⟩⟩ := hon.out
  exact ⟨az, ai, ag, ao, af, cz, ci, cg, co, cf, rfl, ⟨h1.lst, h2.lst, h3, h4, h2.nil⟩, h5.lst, hb.trans (hb2.mono hb.size)⟩
theorem sta_ex (hx : IsEx x) (ht : TskIn w w.heap.size x) (hT : TabIn w) :
    Calls Tryd.prog 20 #[.agg #[.int .i64 x.n, .slice x.ai x.init.length x.ci, .slice x.ag x.goal.length x.cg, .slice x.ao x.ops.length x.co], .slice (some ⟨w.heap.size + 1, 0, none⟩) 1 1, .slice (some ⟨w.heap.size + 1 + 1, 0, none⟩) 1 1] ((((((w).alloc (.cells #[.int .i64 0, .int .i64 1] 3))).alloc (.cells #[.slice (some ⟨w.heap.size, 0, none⟩) 2 2] 22))).alloc (.cells #[.int .i64 1] 3)) fun e w' => ∃ a c, e = .returned (.tuple #[.slice a 2 c, .agg #[.int .i64 0, .int .i64 0]]) ∧ Lst w' w'.heap.size a c [1, 1] ∧ Below w.heap.size w w' := by
  obtain ⟨hr, hb⟩ := wl_rws w
  have hb1 := al_b ((((w).alloc (.cells #[.int .i64 0, .int .i64 1] 3))).alloc (.cells #[.slice (some ⟨w.heap.size, 0, none⟩) 2 2] 22)) (.cells #[.int .i64 1] 3)
  have hl := lst_new1 ((((w).alloc (.cells #[.int .i64 0, .int .i64 1] 3))).alloc (.cells #[.slice (some ⟨w.heap.size, 0, none⟩) 2 2] 22)) 1
  have hb3 := hb.trans (hb1.mono hb.size)
  have hl2 : Lst ((((((w).alloc (.cells #[.int .i64 0, .int .i64 1] 3))).alloc (.cells #[.slice (some ⟨w.heap.size, 0, none⟩) 2 2] 22))).alloc (.cells #[.int .i64 1] 3)) (((((((w).alloc (.cells #[.int .i64 0, .int .i64 1] 3))).alloc (.cells #[.slice (some ⟨w.heap.size, 0, none⟩) 2 2] 22))).alloc (.cells #[.int .i64 1] 3))).heap.size (some ⟨w.heap.size + 1 + 1, 0, none⟩) 1 [1] := by simpa using hl
  refine (State_any x [[0, 1]] [1] _ _ 1 1 _ (ht.to hb3 hb3.size) (hr.to hb1 hb1.size) (by simp) (by simp [maxLen]) hl2 (hT.to hb3 (Nat.le_refl _))).mono ?_
  rintro e w' ⟨v, rfl, hb2, hon⟩
  rw [(ex_se hx).2] at hon
  rw [(ex_se hx).1]
  obtain ⟨a, c, rfl, h1⟩ := hon.out
  exact ⟨a, c, rfl, h1.lst, hb3.trans (hb2.mono hb3.size)⟩
theorem one_ex (hT : TabIn w) :
    Calls Tryd.prog 9 #[.agg #[.int .i64 1, .slice none 0 0, .slice none 0 0, .slice none 0 0], .slice (some ⟨w.heap.size + 1, 0, none⟩) 1 1] ((((w).alloc (.cells #[.int .i64 1] 3))).alloc (.cells #[.slice (some ⟨w.heap.size, 0, none⟩) 1 1] 22)) fun e w' => ∃ v, e = .returned (.tuple #[v, .agg #[.int .i64 5, .int .i64 (-8)]]) ∧ Below w.heap.size w w' := by
  have h := rws_one (l := [1]) (lst_new1 w 1)
  have hb : Below w.heap.size w ((((w).alloc (.cells #[.int .i64 1] 3))).alloc (.cells #[.slice (some ⟨w.heap.size, 0, none⟩) 1 1] 22)) := by go_grown
  refine (cover_any oneT [[1]] _ 1 _ ((oneT_in w).to hb hb.size) (by simpa using h) (by simp) (by simp [maxLen]) (hT.to hb (Nat.le_refl _))).mono ?_
  rintro e w' ⟨v, rfl, hb2, _⟩
  rw [ex_one.1]
  exact ⟨v, rfl, hb.trans (hb2.mono hb.size)⟩
end
end Go.Proofs.YtiaobanloakplaaDoor
