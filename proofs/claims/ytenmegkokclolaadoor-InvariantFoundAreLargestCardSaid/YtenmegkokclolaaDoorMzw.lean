/- Strips: the walk. -/
import Derived.Test.YtenmegkokclolaaDoorMzt
namespace Go.Proofs.YtenmegkokclolaaDoor
open Go.RowKit
set_option linter.unusedSimpArgs false
set_option linter.unusedVariables false
set_option maxRecDepth 100000

set_option maxHeartbeats 4000000 in
theorem strips_a (x : MT) (w : World) (hX : MTIn w w.heap.size x) (hn : (msF x).1 ≠ 0) : Calls Tryd.prog 22 #[.agg #[.slice x.az x.sizes.length x.cz, .slice x.ai x.init.length x.ci, .slice x.ag x.goal.length x.cg, .slice x.ao x.ops.length x.co]] w (StrP w x) := by
  have hQ := Lib.hid (qs_new w x 50 25 27)
  have HVA := Lib.hid (mvalidate_any x _ (hX.to hQ.out.below hQ.out.below.size))
  have HX0 := Lib.hid (fun (W : World) (h : Below w.heap.size w W) => hX.to h h.size)
  clear hX
  by_cases h1 : (mfF x).1 = 0
  case neg =>
    have H := Lib.hid (show msF x = mfF x by unfold msF; rw [if_pos h1])
    rw [H.out] at hn
    generalize mfF x = r at *
    have hne : (r.1 != 0) = true := by simpa using hn
    have hne2 : (r.1 == 0) = false := by simpa using hn
    have HN := Lib.hid hn
    clear hn h1
    go_enter Tryd.func22, Tryd.ntmps22
    go_wp2_with (go_at_call 38; (with_reducible refine HVA.out.mono ?_); rintro e w1 ⟨rfl, hb1⟩; have hlt1 := (hQ.out.to hb1).two.lt; have hn1 : ¬ (w.heap.size + 1 = w1.heap.size) := (by omega); have hn2 : ¬ (w1.heap.size = w.heap.size + 1) := (by omega); have hn3 : ¬ (w.heap.size + 2 = w1.heap.size) := (by omega); have hn4 : ¬ (w1.heap.size = w.heap.size + 2) := (by omega); have hQ := Lib.hid ((hQ.out.to hb1).to (al_b w1 (.cells #[.int .i64 r.1, .int .i64 r.2] 27))); clear hb1; obtain ⟨_, ⟨_, t0, t1, t2, t3⟩, ⟨_, r0, r1, r2, r3, z0, z1, z2, z3⟩, ⟨_, k0, k1, f0, f1⟩⟩ := hQ.out)
    go_region
    · go_wp2
      obtain ⟨h7, h8, h9⟩ := hQ.out.put (.int .i64 0) (.slice none 0 0) (.slice none 0 0) (.slice none 0 0) (.int .i64 r.1) (.int .i64 r.2)
      refine post_task_fault (g := w.heap.size + 2) (g2 := w.heap.size + 1) Tryd.results22 rfl rfl (h7.to (Below.refl _ _).drew h7.lt) (two1 h8) ?_
      exact ⟨tkZ, by rw [H.out]; rfl, tskIn_zero _ _, h9.drew, fun h => absurd (H.out ▸ h) HN.out, fun _ => rfl⟩
  obtain ⟨hv, hz⟩ := mf_val h1
  rw [hz] at HVA
  have h24 : 24 < smN x.sizes x.sizes.length := by
    unfold msF at hn
    rw [if_neg (by simp [h1])] at hn
    split at hn
    · assumption
    · simp at hn
  have H := Lib.hid (show msF x = (10, -8) by unfold msF; rw [if_neg (by simp [h1]), if_pos h24])
  have HFF := Lib.hid (fun (W : World) (h : Below w.heap.size w W) => firstFacts_any x.sizes hv.sz x.az x.cz W (HX0.out W h).sizes)
  have hd : decide (24 < smN x.sizes x.sizes.length) = true := decide_eq_true h24
  clear h1 hn hz hv
  go_enter Tryd.func22, Tryd.ntmps22
  go_wp2_with (first | (go_at_call 38; (with_reducible refine HVA.out.mono ?_); rintro e w1 ⟨rfl, hb1⟩; have hQ := Lib.hid ((hQ.out.to hb1).to (al_b w1 (.cells #[.int .i64 0, .int .i64 0] 27))); clear hb1; obtain ⟨_, ⟨_, t0, t1, t2, t3⟩, ⟨_, r0, r1, r2, r3, z0, z1, z2, z3⟩, ⟨_, k0, k1, f0, f1⟩⟩ := hQ.out) | (go_at_call 39; (with_reducible refine (HFF.out _ hQ.out.below).mono ?_); rintro e w2 ⟨aF, cF, rfl, hlF, hb2⟩; have hQ := Lib.hid ((hQ.out.to hb2).to (al_b w2 (.cells #[.slice aF x.sizes.length cF] 22))); have HLF := Lib.hid hlF; clear hb2 hlF; obtain ⟨_, ⟨_, t0, t1, t2, t3⟩, ⟨_, r0, r1, r2, r3, z0, z1, z2, z3⟩, ⟨_, k0, k1, f0, f1⟩⟩ := hQ.out))
  obtain ⟨h7, h8, h9⟩ := hQ.out.put (.int .i64 0) (.slice none 0 0) (.slice none 0 0) (.slice none 0 0) (.int .i64 10) (.int .i64 (-8))
  refine post_task_fault (g := w.heap.size + 2) (g2 := w.heap.size + 1) Tryd.results22 rfl rfl h7 h8 ?_
  exact ⟨tkZ, by rw [H.out]; rfl, tskIn_zero _ _, h9, (fun h => by rw [H.out] at h; cases h), fun _ => rfl⟩
end Go.Proofs.YtenmegkokclolaaDoor
