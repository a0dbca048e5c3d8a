/- Validate of package strips. -/
import Derived.Test.YtenmegkokclolaaDoorKaf
namespace Go.Proofs.YtenmegkokclolaaDoor
open Go.RowKit
set_option linter.unusedSimpArgs false
set_option linter.unusedVariables false
set_option maxRecDepth 100000

def opF (x : Tsk) (k : Nat) : Int := opCode x.n (opr x.ops k)
def tkF (x : Tsk) : Int × Int :=
  if x.n < 0 ∨ 24 < x.n then (3, -1) else if setB x.init x.n = false then (5, -2) else if setB x.goal x.n = false then (5, -3) else if 40 < x.ops.length then (2, -1) else firstF (opF x) natPos x.ops.length
theorem tkF_loop {x : Tsk} (h0 : 0 ≤ x.n) (h1 : x.n ≤ 24) (h2 : setB x.init x.n = true) (h3 : setB x.goal x.n = true) (h4 : x.ops.length ≤ 40) : tkF x = firstF (opF x) natPos x.ops.length := by
  unfold tkF
  rw [if_neg (by omega), if_neg (by simp [h2]), if_neg (by simp [h3]), if_neg (by omega)]
/-- A valid task. -/
structure Val (x : Tsk) (n : Nat) : Prop where
  eq : x.n = (n : Int)
  le : n ≤ 24
  init : IsS x.init n
  goal : IsS x.goal n
  len : x.ops.length ≤ 40
  ops : ∀ k, k < x.ops.length → OpS (opr x.ops k) n ∧ disB (opr x.ops k).add (opr x.ops k).del = true ∧ 0 ≤ (opr x.ops k).cost ∧ (opr x.ops k).cost ≤ 100
theorem firstF_zero {code pos : Nat → Int} {n : Nat} (h : (firstF code pos n).1 = 0) : ∀ j, j < n → code j = 0 := by
  intro j hj
  unfold firstF at h
  cases e : (List.range n).find? (fun i => code i != 0) with
  | some i =>
    rw [e] at h
    have := List.find?_some e
    simp at this
    exact absurd h this
  | none =>
    rw [List.find?_eq_none] at e
    simpa using e j (by simpa using hj)
theorem tkF_val {x : Tsk} (h : (tkF x).1 = 0) : Val x x.n.toNat := by
  unfold tkF at h
  split at h
  · cases h
  split at h
  · cases h
  split at h
  · cases h
  split at h
  · cases h
  rename_i h0 h2 h3 h4
  have e : ((x.n.toNat : Nat) : Int) = x.n := by omega
  simp at h2 h3
  refine ⟨e.symm, by omega, by rw [e]; exact setB_iff.1 h2, by rw [e]; exact setB_iff.1 h3, by omega, fun k hk => ?_⟩
  have := firstF_zero h k hk
  unfold opF at this
  rw [← e] at this
  exact opCode_zero this
theorem tkF_fst {x : Tsk} (h : (tkF x).1 = 0) : tkF x = (0, 0) := by
  have hv := h
  unfold tkF at h ⊢
  split at h
  · cases h
  split at h
  · cases h
  split at h
  · cases h
  split at h
  · cases h
  rename_i h0 h2 h3 h4
  rw [if_neg h0, if_neg h2, if_neg h3, if_neg h4, firstF_miss (firstF_zero h)]

set_option maxHeartbeats 4000000 in
theorem validate_any (x : Tsk) (w : World) (hX : TskIn w w.heap.size x) :
    Calls Tryd.prog 24 #[.agg #[.int .i64 x.n, .slice x.ai x.init.length x.ci, .slice x.ag x.goal.length x.cg, .slice x.ao x.ops.length x.co]] w fun e w' => e = .returned (faultV (tkF x)) ∧ Below w.heap.size w w' := by
  have hlen := hX.len
  unfold maxLen at hlen
  have hB2 : Below w.heap.size w ((w.alloc (.cells #[.int .i64 x.n, .slice x.ai x.init.length x.ci, .slice x.ag x.goal.length x.cg, .slice x.ao x.ops.length x.co] 25)).alloc (.cells #[.int .i64 0, .int .i64 0] 27)) := by go_grown
  have hX2 := hX.to hB2 hB2.size
  have HX := Lib.hid (fun (W : World) (h : Below w.heap.size w W) => hX.to h h.size)
  clear hX
  by_cases hA : x.n < 0 ∨ 24 < x.n
  · have H := Lib.hid (show tkF x = (3, -1) by simp [tkF, hA])
    clear hX2 hB2
    rcases hA with hA | hA
    · go_enter Tryd.func24, Tryd.ntmps24
      go_wp2
      go_returns
      exact ⟨ret_val (by rw [H.out]), by go_grown⟩
    · have hA0 : 0 ≤ x.n := by omega
      go_enter Tryd.func24, Tryd.ntmps24
      go_wp2
      go_returns
      exact ⟨ret_val (by rw [H.out]), by go_grown⟩
  obtain ⟨h0, h24⟩ : 0 ≤ x.n ∧ x.n ≤ 24 := by omega
  have I1 := Lib.hid (isSet_any x.ai x.ci x.init x.n _ h24 hX2.init.nums hX2.init.len)
  have I2 := Lib.hid (isSet_any x.ag x.cg x.goal x.n _ h24 hX2.goal.nums hX2.goal.len)
  clear hX2 hB2
  cases h2 : setB x.init x.n
  case false =>
    have H := Lib.hid (show tkF x = (5, -2) by simp [tkF, hA, h2])
    clear hA
    go_enter Tryd.func24, Tryd.ntmps24
    go_wp2_with (go_at_call 25; (with_reducible refine I1.out.mono ?_); rintro e w' ⟨rfl, rfl⟩)
    go_returns
    exact ⟨ret_val (by rw [H.out]), by go_grown⟩
  cases h3 : setB x.goal x.n
  case false =>
    have H := Lib.hid (show tkF x = (5, -3) by simp [tkF, hA, h2, h3])
    clear hA
    go_enter Tryd.func24, Tryd.ntmps24
    go_wp2_with (first
      | (go_at_call 25; (with_reducible refine I1.out.mono ?_); rintro e w' ⟨rfl, rfl⟩)
      | (go_at_call 25; (with_reducible refine I2.out.mono ?_); rintro e w' ⟨rfl, rfl⟩))
    go_returns
    exact ⟨ret_val (by rw [H.out]), by go_grown⟩
  by_cases h4 : 40 < x.ops.length
  · have H := Lib.hid (show tkF x = (2, -1) by simp [tkF, hA, h2, h3, h4])
    clear hA
    go_enter Tryd.func24, Tryd.ntmps24
    go_wp2_with (first
      | (go_at_call 25; (with_reducible refine I1.out.mono ?_); rintro e w' ⟨rfl, rfl⟩)
      | (go_at_call 25; (with_reducible refine I2.out.mono ?_); rintro e w' ⟨rfl, rfl⟩))
    go_returns
    exact ⟨ret_val (by rw [H.out]), by go_grown⟩
  have H := Lib.hid (tkF_loop h0 h24 h2 h3 (by omega))
  have h4' : x.ops.length ≤ 40 := by omega
  clear hA h4
  go_enter Tryd.func24, Tryd.ntmps24
  go_wp2_with (first
    | (go_at_call 25; (with_reducible refine I1.out.mono ?_); rintro e w' ⟨rfl, rfl⟩)
    | (go_at_call 25; (with_reducible refine I2.out.mono ?_); rintro e w' ⟨rfl, rfl⟩))
  clear I1 I2 h2 h3
  go_loopw [41] (fun i wr => ∃ k : Nat, k ≤ x.ops.length ∧ i = .int .i64 k ∧ Below w.heap.size w wr ∧ TBox wr w.heap.size x ∧ Two wr (w.heap.size + 1) (.int .i64 0) (.int .i64 0) ∧ ∀ j, j < k → opF x j = 0) (fun i _ => x.ops.length - (intOf i).toNat)
  case atStart => exact ⟨0, by omega, rfl, by go_grown, ⟨by simp; omega, by simp, by simp, by simp, by simp⟩, ⟨by simp, by simp, by simp, by simp, by simp⟩, by omega⟩
  case round =>
    obtain ⟨k, hk, rfl, hbw, hbox, htwo, hj⟩ := hrel
    have HJ := Lib.hid hj
    clear hj
    have HB := Lib.hid hbw
    clear hbw
    have HT := Lib.hid htwo
    clear htwo
    have HBX := Lib.hid hbox
    clear hbox
    by_cases hlt : k < x.ops.length
    · obtain ⟨b, p, a1, a2, a3, c1, c2, c3, hao, hbl, ⟨q0, q1, q2, q3⟩, hOV⟩ := (HX.out _ HB.out).ops.at_ hlt
      rw [hao]
      obtain ⟨t4, t0, t1, t2, t3⟩ := HBX.out
      have hOV1 : OpV (wr.alloc (.cells #[.slice a1 (opr x.ops k).pre.length c1, .slice a2 (opr x.ops k).add.length c2, .slice a3 (opr x.ops k).del.length c3, .int .i64 (opr x.ops k).cost] 55)) (wr.alloc (.cells #[.slice a1 (opr x.ops k).pre.length c1, .slice a2 (opr x.ops k).add.length c2, .slice a3 (opr x.ops k).del.length c3, .int .i64 (opr x.ops k).cost] 55)).heap.size (opr x.ops k) a1 a2 a3 c1 c2 c3 := hOV.to ((Below.refl _ _).alloc (Nat.le_refl _) _) (by simp)
      have HC := Lib.hid (opCode_any x.n h24 (opr x.ops k) a1 a2 a3 c1 c2 c3 _ hOV1)
      clear hOV hOV1
      have h2 : ∀ w', Below (wr.heap.size + 1) (wr.alloc (.cells #[.slice a1 (opr x.ops k).pre.length c1, .slice a2 (opr x.ops k).add.length c2, .slice a3 (opr x.ops k).del.length c3, .int .i64 (opr x.ops k).cost] 55)) w' → Below w.heap.size w w' ∧ TBox w' w.heap.size x ∧ Two w' (w.heap.size + 1) (.int .i64 0) (.int .i64 0) := fun w' h => by
        have e1 := HB.out.size
        have e2 := HT.out.lt
        have e3 : Below wr.heap.size wr w' := ((Below.refl _ _).alloc (Nat.le_refl _) _).trans (h.mono (by omega))
        exact ⟨HB.out.trans (e3.mono e1), HBX.out.to e3 t4, HT.out.to e3 e2⟩
      have H2 := Lib.hid h2
      clear h2
      by_cases hcode : opF x k = 0
      · have H0 := Lib.hid hcode
        have hne : (opCode x.n (opr x.ops k) != 0) = false := by simpa [opF] using hcode
        clear hcode
        go_wp2_with (go_at_call 42; (with_reducible refine HC.out.mono ?_); rintro e w' ⟨rfl, hbw⟩)
        rw [World.size_alloc] at hbw
        go_roundw
        case rel => exact ⟨k + 1, by omega, by go_num, (H2.out _ hbw).1, (H2.out _ hbw).2.1, (H2.out _ hbw).2.2, code_step HJ.out H0.out⟩
        case measure => simp [intOf]; omega
      · have H0 := Lib.hid hcode
        have hne : (opCode x.n (opr x.ops k) != 0) = true := by simpa [opF] using hcode
        clear hcode
        go_wp2_with (go_at_call 42; (with_reducible refine HC.out.mono ?_); rintro e w' ⟨rfl, hbw⟩; rw [World.size_alloc] at hbw; obtain ⟨_, k0, k1, f0, f1⟩ := (H2.out _ hbw).2.2)
        refine post_fault (g := w.heap.size + 1) (x := .int .i64 (opCode x.n (opr x.ops k))) (y := .int .i64 k) Tryd.results24 rfl ((H2.out _ hbw).2.2.set _ _) ?_
        exact ⟨ret_val (by rw [H.out, firstF_hit hlt H0.out HJ.out]; rfl), ((H2.out _ hbw).1.setCell (by simp) _).setCell (by simp) _⟩
    · have hge : ¬ ((k : Int) < x.ops.length) := by omega
      obtain ⟨_, c0, c1, f0, f1⟩ := HT.out
      go_wp2
      refine post_fault (g := w.heap.size + 1) (x := .int .i64 0) (y := .int .i64 0) Tryd.results24 rfl (HT.out.set _ _) ?_
      exact ⟨ret_val (by rw [H.out, firstF_miss (fun j hj => HJ.out j (by omega))]), (HB.out.setCell (by simp) _).setCell (by simp) _⟩
end Go.Proofs.YtenmegkokclolaaDoor
