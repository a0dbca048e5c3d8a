/- The law NumericMatchesSpec: the walk at valid tasks. -/
import Derived.Test.YtiafplmaigpmeaaNl3
namespace Go.Proofs.Ytiafplmaigpmeaa
open Go.RowKit
set_option linter.unusedSimpArgs false
set_option linter.unusedVariables false
set_option maxRecDepth 100000

theorem in_own {w : World} {base : Nat} {v : Value} {l : List Int} {a : Option Addr} {c : Nat} (h : w.ownsRow base 3 1 v l.length (l.map (Value.int .i64))) (h2 : Lst w w.heap.size a c l) : Calls Try.prog 19 #[v, .slice a l.length c] w fun e w' => e = .returned (.bool true) ∧ Below w.heap.size w w' := by
  obtain ⟨a', c', rfl, hl, _⟩ := own_lst h
  exact ints_same a' a c' c l l rfl w hl h2
theorem sp_zero {m : Nat} {plan : List Int} (h : (spF m plan).1 = 0) : spF m plan = (0, 0) ∧ planB m plan = true := by
  unfold spF at h ⊢
  by_cases h1 : 60 < plan.length
  · rw [if_pos h1] at h; exact absurd h (by simp)
  · rw [if_neg h1] at h ⊢
    cases hp : planB m plan
    · rw [hp] at h; exact absurd h (by simp)
    · exact ⟨rfl, rfl⟩
theorem naf_bad {o : NOp} {v : List Int} (h : (naf o v).2 ≠ 0) : (naf o v).1 = [] := by
  unfold naf at h ⊢
  split
  · rfl
  · rename_i h1
    rw [if_neg h1] at h
    split
    · rfl
    · rename_i h2
      rw [if_neg h2] at h
      exact absurd rfl h
set_option maxHeartbeats 4000000 in
theorem mspec_zB (hNv : NvC) (hNa : NaC) (hNs : NsC) (hNb : NbC) (x : NT) (a2 : Option Addr) (c2 : Nat) (v : List Int) (op : Int) (a3 : Option Addr) (c3 : Nat) (plan : List Int) (w : World) (hX : NTIn w w.heap.size x) (hL : Lst w w.heap.size a2 c2 v) (hz2 : a2 = none → c2 = 0) (hP : Lst w w.heap.size a3 c3 plan) (h0 : (nfF x).1 = 0) (hsp : (spF x.ops.length plan).1 = 0) (hok : okL 1000000 x.init.length v = false) :
    Calls Try.prog 3 #[.agg #[.slice x.ai x.init.length x.ci, .slice x.ag x.goal.length x.cg, .slice x.ao x.ops.length x.co], .slice a2 v.length c2, .int .i64 op, .slice a3 plan.length c3] w fun e w' => e = .returned (.bool true) ∧ Below w.heap.size w w' := by
  obtain ⟨hv, hz⟩ := nf_val h0
  have hno := Nat.le_trans hX.ops.le hX.ops.max
  unfold maxLen at hno
  have HX0 := Lib.hid (fun (W : World) (h : Below w.heap.size w W) => hX.to h h.size)
  have HL0 := Lib.hid (fun (W : World) (h : Below w.heap.size w W) => hL.to h h.size)
  have HP0 := Lib.hid (fun (W : World) (h : Below w.heap.size w W) => hP.to h h.size)
  have HB0 := Lib.hid (al_b w (.cells #[.slice x.ai x.init.length x.ci, .slice x.ag x.goal.length x.cg, .slice x.ao x.ops.length x.co] 26))
  have HBX := Lib.hid (nbox_new w x 26)
  have HNF := Lib.hid (numericFault_any x _ (HX0.out _ HB0.out))
  have HNV := Lib.hid (fun (W : World) (h : NTIn W W.heap.size x) => hNv x W h)
  have HNS := Lib.hid (fun (W : World) (h : NTIn W W.heap.size x) (h2 : Lst W W.heap.size a3 c3 plan) => hNs x a3 c3 plan W h h2)
  have HNA := Lib.hid (fun (W : World) (h : NTIn W W.heap.size x) (h2 : Lst W W.heap.size a2 c2 v) => hNa x a2 c2 v op W h h2 hz2)
  have HSF := Lib.hid (fun (W : World) (h2 : Lst W W.heap.size a3 c3 plan) => stepsFault_any x.ops.length (by unfold maxLen; omega) a3 c3 plan W h2)
  have HVO := Lib.hid (fun (W : World) (h2 : Lst W W.heap.size a2 c2 v) => valuesOk_any x.init.length a2 c2 v W h2)
  rw [hz] at HNF HNV
  rw [hok] at HVO
  have hno2 : IntKind.i64.wrap ((x.ops.length : Int) - 1) = (x.ops.length : Int) - 1 := IntWalk.i64_in _ (by omega)
  obtain ⟨hsz, hpl⟩ := sp_zero hsp
  have e1 : nspF x plan = (0, 0) := by unfold nspF; rw [if_neg (by simp [h0]), hsz]
  have e2 : nspB x plan = nsol x plan := by unfold nspB; rw [e1]; rfl
  rw [e1, e2] at HNS
  rw [hsz] at HSF
  have HNR := Lib.hid (fun (W : World) (h : NTIn W W.heap.size x) (h2 : Lst W W.heap.size a3 c3 plan) => numericSolves_any x hv a3 c3 plan hpl W h h2)
  generalize nsol x plan = ns at *
  have hbb : (ns != ns) = false := by cases ns <;> rfl
  clear e1 e2 hsz hpl hsp
  have e3 : napF x v op = (5, -4) := by unfold napF; rw [if_neg (by simp [h0]), if_pos hok]
  have e4 : napL x v op = [] := by unfold napL; rw [e3]; rfl
  rw [e3, e4] at HNA
  clear e3 e4
  clear hX hL hP h0 hv hz
  go_enter Try.func3, Try.ntmps3
  go_wp2_with (go_at_call 8; (with_reducible refine HNF.out.mono ?_); rintro e wF ⟨rfl, hb⟩; have hN := Lib.hid (wn_new (HB0.out.trans (hb.mono HB0.out.size)) (HBX.out.to hb HBX.out.lt) 0 0); clear hb)
  generalize hg : wF.heap.size = g at *
  generalize hW : wF.alloc (.cells #[.int .i64 0, .int .i64 0] 28) = W1 at *
  clear hg hW
  have HSO := Lib.hid (fun (Y : World) (h : Below W1.heap.size W1 Y) => (⟨(hN.out.to h).box.c0, (hN.out.to h).box.c1, (hN.out.to h).box.c2, (hN.out.to h).two.fst, (hN.out.to h).two.snd, h⟩ : Y.cell? ⟨w.heap.size, 0, none⟩ = some (.slice x.ai x.init.length x.ci) ∧ Y.cell? ⟨w.heap.size, 1, none⟩ = some (.slice x.ag x.goal.length x.cg) ∧ Y.cell? ⟨w.heap.size, 2, none⟩ = some (.slice x.ao x.ops.length x.co) ∧ Y.cell? ⟨g, 0, none⟩ = some (.int .i64 0) ∧ Y.cell? ⟨g, 1, none⟩ = some (.int .i64 0) ∧ Below W1.heap.size W1 Y))
  have HX1 := Lib.hid (fun (Y : World) (h : Below W1.heap.size W1 Y) => HX0.out _ (hN.out.to h).below)
  have hww := Below.refl W1.heap.size W1
  go_region_held3 (fun Y => Y.cell? ⟨w.heap.size, 0, none⟩ = some (.slice x.ai x.init.length x.ci) ∧ Y.cell? ⟨w.heap.size, 1, none⟩ = some (.slice x.ag x.goal.length x.cg) ∧ Y.cell? ⟨w.heap.size, 2, none⟩ = some (.slice x.ao x.ops.length x.co) ∧ Y.cell? ⟨g, 0, none⟩ = some (.int .i64 0) ∧ Y.cell? ⟨g, 1, none⟩ = some (.int .i64 0) ∧ Below W1.heap.size W1 Y) (first | (refine ⟨?_, ?_, ?_, ?_, ?_, ?_⟩ <;> assumption) | (exact HSO.out _ hww.drew) | (exact HSO.out _ hww) | (exact HSO.out _ (bel_up (last6n (by assumption)) (by assumption))) | (exact HSO.out _ (b1d (last6n (by assumption))))) (first | (go_at_call 9; refine (counts_any hNv hNa hNs hNb _).mono ?_; rintro e wc ⟨rfl, hb⟩) | (go_at_call 10; refine (HNV.out _ (HX1.out _ (last6n (by assumption)))).mono ?_; rintro e wv ⟨rfl, hb⟩))
  all_goals
    have hN2 := Lib.hid (hN.out.to (last6n (by assumption)))
    have hM := Lib.hid (ms_new hN2.out 0 0)
    obtain ⟨_, ⟨_, t0, t1, t2⟩, hg1, hg2, ⟨_, k0, k1, f0, f1⟩, ⟨_, m0, m1, n0, n1⟩⟩ := hM.out
    obtain ⟨_, _, _, ⟨_, l0, l1, _, _⟩⟩ := hN2.out
    go_wp2_with (first | (go_at_call 12; (with_reducible refine (HNS.out _ (HX0.out _ hM.out.below) (HP0.out _ hM.out.below)).mono ?_); rintro e wS ⟨rfl, hb⟩; have hM := Lib.hid ((hM.out.to hb).to (al_b wS (.cells #[.int .i64 0, .int .i64 0] 28))); have hT := Lib.hid (two_new wS (.int .i64 0) (.int .i64 0) 28); clear hb; obtain ⟨_, ⟨_, t0, t1, t2⟩, hg1, hg2, ⟨_, k0, k1, f0, f1⟩, ⟨_, m0, m1, n0, n1⟩⟩ := hM.out; obtain ⟨_, z0, z1, _, _⟩ := hT.out) | (go_at_call 11; (with_reducible refine (HSF.out _ (HP0.out _ hM.out.below)).mono ?_); rintro e w4 ⟨rfl, hb⟩; have hM := Lib.hid (hM.out.to hb); obtain ⟨_, ⟨_, t0, t1, t2⟩, hg1, hg2, ⟨_, k0, k1, f0, f1⟩, ⟨_, m0, m1, n0, n1⟩⟩ := hM.out; have hM := Lib.hid (hM.out.setu 0 0); clear hb) | (go_at_call 13; (with_reducible refine (HNR.out _ (HX0.out _ hM.out.below) (HP0.out _ hM.out.below)).mono ?_); rintro e w6 ⟨rfl, hb⟩; have hM := Lib.hid (hM.out.to hb); clear hb; obtain ⟨_, ⟨_, t0, t1, t2⟩, hg1, hg2, ⟨_, k0, k1, f0, f1⟩, ⟨_, m0, m1, n0, n1⟩⟩ := hM.out) | (go_at_call 14; (with_reducible refine (HVO.out _ (HL0.out _ hM.out.below)).mono ?_); rintro e w7 ⟨rfl, rfl⟩) | (go_at_call 16; refine (in_any _ _ _ _).mono ?_; rintro e w' ⟨rfl, rfl⟩) | (go_at_call 15; refine (at_any _ _ _).mono ?_; rintro e w8 ⟨rfl, hb⟩; have hM := Lib.hid (hM.out.to hb); obtain ⟨_, ⟨_, t0, t1, t2⟩, hg1, hg2, ⟨_, k0, k1, f0, f1⟩, ⟨_, m0, m1, n0, n1⟩⟩ := hM.out; have hM := Lib.hid (hM.out.setw 5 (-4)); clear hb) | (go_at_call 18; (with_reducible refine (HNA.out _ (HX0.out _ hM.out.below) (HL0.out _ hM.out.below)).mono ?_); rintro e wA ⟨vA, rfl, ho, hb⟩; have hM := Lib.hid ((hM.out.to hb).to (al_b wA (.cells #[.int .i64 5, .int .i64 (-4)] 28))); have hT := Lib.hid (two_new wA (.int .i64 5) (.int .i64 (-4)) 28); have HOA := Lib.hid (own_to ho (al_b wA (.cells #[.int .i64 5, .int .i64 (-4)] 28)));  clear hb ho; obtain ⟨_, ⟨_, t0, t1, t2⟩, hg1, hg2, ⟨_, k0, k1, f0, f1⟩, ⟨_, m0, m1, n0, n1⟩⟩ := hM.out; obtain ⟨_, z0, z1, _, _⟩ := hT.out) | (go_at_call 19; obtain ⟨_, _, _, hci⟩ := in_nil HOA.out; (with_reducible refine hci.mono ?_); rintro e wI ⟨rfl, hb⟩; have hM := Lib.hid (hM.out.to hb); clear hb))
    go_ret
    exact ⟨rfl, hM.out.below⟩
set_option maxHeartbeats 4000000 in
theorem mspec_nB (hNv : NvC) (hNa : NaC) (hNs : NsC) (hNb : NbC) (x : NT) (a2 : Option Addr) (c2 : Nat) (v : List Int) (op : Int) (a3 : Option Addr) (c3 : Nat) (plan : List Int) (w : World) (hX : NTIn w w.heap.size x) (hL : Lst w w.heap.size a2 c2 v) (hz2 : a2 = none → c2 = 0) (hP : Lst w w.heap.size a3 c3 plan) (h0 : (nfF x).1 = 0) (hsp : (spF x.ops.length plan).1 ≠ 0) (hok : okL 1000000 x.init.length v = false) :
    Calls Try.prog 3 #[.agg #[.slice x.ai x.init.length x.ci, .slice x.ag x.goal.length x.cg, .slice x.ao x.ops.length x.co], .slice a2 v.length c2, .int .i64 op, .slice a3 plan.length c3] w fun e w' => e = .returned (.bool true) ∧ Below w.heap.size w w' := by
  obtain ⟨hv, hz⟩ := nf_val h0
  have hno := Nat.le_trans hX.ops.le hX.ops.max
  unfold maxLen at hno
  have HX0 := Lib.hid (fun (W : World) (h : Below w.heap.size w W) => hX.to h h.size)
  have HL0 := Lib.hid (fun (W : World) (h : Below w.heap.size w W) => hL.to h h.size)
  have HP0 := Lib.hid (fun (W : World) (h : Below w.heap.size w W) => hP.to h h.size)
  have HB0 := Lib.hid (al_b w (.cells #[.slice x.ai x.init.length x.ci, .slice x.ag x.goal.length x.cg, .slice x.ao x.ops.length x.co] 26))
  have HBX := Lib.hid (nbox_new w x 26)
  have HNF := Lib.hid (numericFault_any x _ (HX0.out _ HB0.out))
  have HNV := Lib.hid (fun (W : World) (h : NTIn W W.heap.size x) => hNv x W h)
  have HNS := Lib.hid (fun (W : World) (h : NTIn W W.heap.size x) (h2 : Lst W W.heap.size a3 c3 plan) => hNs x a3 c3 plan W h h2)
  have HNA := Lib.hid (fun (W : World) (h : NTIn W W.heap.size x) (h2 : Lst W W.heap.size a2 c2 v) => hNa x a2 c2 v op W h h2 hz2)
  have HSF := Lib.hid (fun (W : World) (h2 : Lst W W.heap.size a3 c3 plan) => stepsFault_any x.ops.length (by unfold maxLen; omega) a3 c3 plan W h2)
  have HVO := Lib.hid (fun (W : World) (h2 : Lst W W.heap.size a2 c2 v) => valuesOk_any x.init.length a2 c2 v W h2)
  rw [hz] at HNF HNV
  rw [hok] at HVO
  have hno2 : IntKind.i64.wrap ((x.ops.length : Int) - 1) = (x.ops.length : Int) - 1 := IntWalk.i64_in _ (by omega)
  have e1 : nspF x plan = spF x.ops.length plan := by unfold nspF; rw [if_neg (by simp [h0])]
  have e2 : nspB x plan = false := by unfold nspB; rw [e1, decide_eq_false hsp]; rfl
  rw [e1, e2] at HNS
  have hsp1 : ((spF x.ops.length plan).1 == 0) = false := by simpa using hsp
  clear e1 e2 hsp
  have e3 : napF x v op = (5, -4) := by unfold napF; rw [if_neg (by simp [h0]), if_pos hok]
  have e4 : napL x v op = [] := by unfold napL; rw [e3]; rfl
  rw [e3, e4] at HNA
  clear e3 e4
  clear hX hL hP h0 hv hz
  go_enter Try.func3, Try.ntmps3
  go_wp2_with (go_at_call 8; (with_reducible refine HNF.out.mono ?_); rintro e wF ⟨rfl, hb⟩; have hN := Lib.hid (wn_new (HB0.out.trans (hb.mono HB0.out.size)) (HBX.out.to hb HBX.out.lt) 0 0); clear hb)
  generalize hg : wF.heap.size = g at *
  generalize hW : wF.alloc (.cells #[.int .i64 0, .int .i64 0] 28) = W1 at *
  clear hg hW
  have HSO := Lib.hid (fun (Y : World) (h : Below W1.heap.size W1 Y) => (⟨(hN.out.to h).box.c0, (hN.out.to h).box.c1, (hN.out.to h).box.c2, (hN.out.to h).two.fst, (hN.out.to h).two.snd, h⟩ : Y.cell? ⟨w.heap.size, 0, none⟩ = some (.slice x.ai x.init.length x.ci) ∧ Y.cell? ⟨w.heap.size, 1, none⟩ = some (.slice x.ag x.goal.length x.cg) ∧ Y.cell? ⟨w.heap.size, 2, none⟩ = some (.slice x.ao x.ops.length x.co) ∧ Y.cell? ⟨g, 0, none⟩ = some (.int .i64 0) ∧ Y.cell? ⟨g, 1, none⟩ = some (.int .i64 0) ∧ Below W1.heap.size W1 Y))
  have HX1 := Lib.hid (fun (Y : World) (h : Below W1.heap.size W1 Y) => HX0.out _ (hN.out.to h).below)
  have hww := Below.refl W1.heap.size W1
  go_region_held3 (fun Y => Y.cell? ⟨w.heap.size, 0, none⟩ = some (.slice x.ai x.init.length x.ci) ∧ Y.cell? ⟨w.heap.size, 1, none⟩ = some (.slice x.ag x.goal.length x.cg) ∧ Y.cell? ⟨w.heap.size, 2, none⟩ = some (.slice x.ao x.ops.length x.co) ∧ Y.cell? ⟨g, 0, none⟩ = some (.int .i64 0) ∧ Y.cell? ⟨g, 1, none⟩ = some (.int .i64 0) ∧ Below W1.heap.size W1 Y) (first | (refine ⟨?_, ?_, ?_, ?_, ?_, ?_⟩ <;> assumption) | (exact HSO.out _ hww.drew) | (exact HSO.out _ hww) | (exact HSO.out _ (bel_up (last6n (by assumption)) (by assumption))) | (exact HSO.out _ (b1d (last6n (by assumption))))) (first | (go_at_call 9; refine (counts_any hNv hNa hNs hNb _).mono ?_; rintro e wc ⟨rfl, hb⟩) | (go_at_call 10; refine (HNV.out _ (HX1.out _ (last6n (by assumption)))).mono ?_; rintro e wv ⟨rfl, hb⟩))
  all_goals
    have hN2 := Lib.hid (hN.out.to (last6n (by assumption)))
    have hM := Lib.hid (ms_new hN2.out 0 0)
    obtain ⟨_, ⟨_, t0, t1, t2⟩, hg1, hg2, ⟨_, k0, k1, f0, f1⟩, ⟨_, m0, m1, n0, n1⟩⟩ := hM.out
    obtain ⟨_, _, _, ⟨_, l0, l1, _, _⟩⟩ := hN2.out
    go_wp2_with (first | (go_at_call 12; (with_reducible refine (HNS.out _ (HX0.out _ hM.out.below) (HP0.out _ hM.out.below)).mono ?_); rintro e wS ⟨rfl, hb⟩; have hM := Lib.hid ((hM.out.to hb).to (al_b wS (.cells #[.int .i64 (spF x.ops.length plan).1, .int .i64 (spF x.ops.length plan).2] 28))); have hT := Lib.hid (two_new wS (.int .i64 (spF x.ops.length plan).1) (.int .i64 (spF x.ops.length plan).2) 28); clear hb; obtain ⟨_, ⟨_, t0, t1, t2⟩, hg1, hg2, ⟨_, k0, k1, f0, f1⟩, ⟨_, m0, m1, n0, n1⟩⟩ := hM.out; obtain ⟨_, z0, z1, _, _⟩ := hT.out) | (go_at_call 11; (with_reducible refine (HSF.out _ (HP0.out _ hM.out.below)).mono ?_); rintro e w4 ⟨rfl, hb⟩; have hM := Lib.hid (hM.out.to hb); obtain ⟨_, ⟨_, t0, t1, t2⟩, hg1, hg2, ⟨_, k0, k1, f0, f1⟩, ⟨_, m0, m1, n0, n1⟩⟩ := hM.out; have hM := Lib.hid (hM.out.setu (spF x.ops.length plan).1 (spF x.ops.length plan).2); clear hb) | (go_at_call 14; (with_reducible refine (HVO.out _ (HL0.out _ hM.out.below)).mono ?_); rintro e w7 ⟨rfl, rfl⟩) | (go_at_call 16; refine (in_any _ _ _ _).mono ?_; rintro e w' ⟨rfl, rfl⟩) | (go_at_call 15; refine (at_any _ _ _).mono ?_; rintro e w8 ⟨rfl, hb⟩; have hM := Lib.hid (hM.out.to hb); obtain ⟨_, ⟨_, t0, t1, t2⟩, hg1, hg2, ⟨_, k0, k1, f0, f1⟩, ⟨_, m0, m1, n0, n1⟩⟩ := hM.out; have hM := Lib.hid (hM.out.setw 5 (-4)); clear hb) | (go_at_call 18; (with_reducible refine (HNA.out _ (HX0.out _ hM.out.below) (HL0.out _ hM.out.below)).mono ?_); rintro e wA ⟨vA, rfl, ho, hb⟩; have hM := Lib.hid ((hM.out.to hb).to (al_b wA (.cells #[.int .i64 5, .int .i64 (-4)] 28))); have hT := Lib.hid (two_new wA (.int .i64 5) (.int .i64 (-4)) 28); have HOA := Lib.hid (own_to ho (al_b wA (.cells #[.int .i64 5, .int .i64 (-4)] 28)));  clear hb ho; obtain ⟨_, ⟨_, t0, t1, t2⟩, hg1, hg2, ⟨_, k0, k1, f0, f1⟩, ⟨_, m0, m1, n0, n1⟩⟩ := hM.out; obtain ⟨_, z0, z1, _, _⟩ := hT.out) | (go_at_call 19; obtain ⟨_, _, _, hci⟩ := in_nil HOA.out; (with_reducible refine hci.mono ?_); rintro e wI ⟨rfl, hb⟩; have hM := Lib.hid (hM.out.to hb); clear hb))
    go_ret
    exact ⟨rfl, hM.out.below⟩
set_option maxHeartbeats 4000000 in
theorem mspec_zC (hNv : NvC) (hNa : NaC) (hNs : NsC) (hNb : NbC) (x : NT) (a2 : Option Addr) (c2 : Nat) (v : List Int) (op : Int) (a3 : Option Addr) (c3 : Nat) (plan : List Int) (w : World) (hX : NTIn w w.heap.size x) (hL : Lst w w.heap.size a2 c2 v) (hz2 : a2 = none → c2 = 0) (hP : Lst w w.heap.size a3 c3 plan) (h0 : (nfF x).1 = 0) (hsp : (spF x.ops.length plan).1 = 0) (hok : okL 1000000 x.init.length v = true) (hin : inB op 0 ((x.ops.length : Int) - 1) = false) :
    Calls Try.prog 3 #[.agg #[.slice x.ai x.init.length x.ci, .slice x.ag x.goal.length x.cg, .slice x.ao x.ops.length x.co], .slice a2 v.length c2, .int .i64 op, .slice a3 plan.length c3] w fun e w' => e = .returned (.bool true) ∧ Below w.heap.size w w' := by
  obtain ⟨hv, hz⟩ := nf_val h0
  have hno := Nat.le_trans hX.ops.le hX.ops.max
  unfold maxLen at hno
  have HX0 := Lib.hid (fun (W : World) (h : Below w.heap.size w W) => hX.to h h.size)
  have HL0 := Lib.hid (fun (W : World) (h : Below w.heap.size w W) => hL.to h h.size)
  have HP0 := Lib.hid (fun (W : World) (h : Below w.heap.size w W) => hP.to h h.size)
  have HB0 := Lib.hid (al_b w (.cells #[.slice x.ai x.init.length x.ci, .slice x.ag x.goal.length x.cg, .slice x.ao x.ops.length x.co] 26))
  have HBX := Lib.hid (nbox_new w x 26)
  have HNF := Lib.hid (numericFault_any x _ (HX0.out _ HB0.out))
  have HNV := Lib.hid (fun (W : World) (h : NTIn W W.heap.size x) => hNv x W h)
  have HNS := Lib.hid (fun (W : World) (h : NTIn W W.heap.size x) (h2 : Lst W W.heap.size a3 c3 plan) => hNs x a3 c3 plan W h h2)
  have HNA := Lib.hid (fun (W : World) (h : NTIn W W.heap.size x) (h2 : Lst W W.heap.size a2 c2 v) => hNa x a2 c2 v op W h h2 hz2)
  have HSF := Lib.hid (fun (W : World) (h2 : Lst W W.heap.size a3 c3 plan) => stepsFault_any x.ops.length (by unfold maxLen; omega) a3 c3 plan W h2)
  have HVO := Lib.hid (fun (W : World) (h2 : Lst W W.heap.size a2 c2 v) => valuesOk_any x.init.length a2 c2 v W h2)
  rw [hz] at HNF HNV
  rw [hok] at HVO
  have hno2 : IntKind.i64.wrap ((x.ops.length : Int) - 1) = (x.ops.length : Int) - 1 := IntWalk.i64_in _ (by omega)
  obtain ⟨hsz, hpl⟩ := sp_zero hsp
  have e1 : nspF x plan = (0, 0) := by unfold nspF; rw [if_neg (by simp [h0]), hsz]
  have e2 : nspB x plan = nsol x plan := by unfold nspB; rw [e1]; rfl
  rw [e1, e2] at HNS
  rw [hsz] at HSF
  have HNR := Lib.hid (fun (W : World) (h : NTIn W W.heap.size x) (h2 : Lst W W.heap.size a3 c3 plan) => numericSolves_any x hv a3 c3 plan hpl W h h2)
  generalize nsol x plan = ns at *
  have hbb : (ns != ns) = false := by cases ns <;> rfl
  clear e1 e2 hsz hpl hsp
  have e3 : napF x v op = (3, -6) := by unfold napF; rw [if_neg (by simp [h0]), if_neg (by simp [hok]), if_pos hin]
  have e4 : napL x v op = [] := by unfold napL; rw [e3]; rfl
  rw [e3, e4] at HNA
  clear e3 e4
  clear hX hL hP h0 hv hz
  go_enter Try.func3, Try.ntmps3
  go_wp2_with (go_at_call 8; (with_reducible refine HNF.out.mono ?_); rintro e wF ⟨rfl, hb⟩; have hN := Lib.hid (wn_new (HB0.out.trans (hb.mono HB0.out.size)) (HBX.out.to hb HBX.out.lt) 0 0); clear hb)
  generalize hg : wF.heap.size = g at *
  generalize hW : wF.alloc (.cells #[.int .i64 0, .int .i64 0] 28) = W1 at *
  clear hg hW
  have HSO := Lib.hid (fun (Y : World) (h : Below W1.heap.size W1 Y) => (⟨(hN.out.to h).box.c0, (hN.out.to h).box.c1, (hN.out.to h).box.c2, (hN.out.to h).two.fst, (hN.out.to h).two.snd, h⟩ : Y.cell? ⟨w.heap.size, 0, none⟩ = some (.slice x.ai x.init.length x.ci) ∧ Y.cell? ⟨w.heap.size, 1, none⟩ = some (.slice x.ag x.goal.length x.cg) ∧ Y.cell? ⟨w.heap.size, 2, none⟩ = some (.slice x.ao x.ops.length x.co) ∧ Y.cell? ⟨g, 0, none⟩ = some (.int .i64 0) ∧ Y.cell? ⟨g, 1, none⟩ = some (.int .i64 0) ∧ Below W1.heap.size W1 Y))
  have HX1 := Lib.hid (fun (Y : World) (h : Below W1.heap.size W1 Y) => HX0.out _ (hN.out.to h).below)
  have hww := Below.refl W1.heap.size W1
  go_region_held3 (fun Y => Y.cell? ⟨w.heap.size, 0, none⟩ = some (.slice x.ai x.init.length x.ci) ∧ Y.cell? ⟨w.heap.size, 1, none⟩ = some (.slice x.ag x.goal.length x.cg) ∧ Y.cell? ⟨w.heap.size, 2, none⟩ = some (.slice x.ao x.ops.length x.co) ∧ Y.cell? ⟨g, 0, none⟩ = some (.int .i64 0) ∧ Y.cell? ⟨g, 1, none⟩ = some (.int .i64 0) ∧ Below W1.heap.size W1 Y) (first | (refine ⟨?_, ?_, ?_, ?_, ?_, ?_⟩ <;> assumption) | (exact HSO.out _ hww.drew) | (exact HSO.out _ hww) | (exact HSO.out _ (bel_up (last6n (by assumption)) (by assumption))) | (exact HSO.out _ (b1d (last6n (by assumption))))) (first | (go_at_call 9; refine (counts_any hNv hNa hNs hNb _).mono ?_; rintro e wc ⟨rfl, hb⟩) | (go_at_call 10; refine (HNV.out _ (HX1.out _ (last6n (by assumption)))).mono ?_; rintro e wv ⟨rfl, hb⟩))
  all_goals
    have hN2 := Lib.hid (hN.out.to (last6n (by assumption)))
    have hM := Lib.hid (ms_new hN2.out 0 0)
    obtain ⟨_, ⟨_, t0, t1, t2⟩, hg1, hg2, ⟨_, k0, k1, f0, f1⟩, ⟨_, m0, m1, n0, n1⟩⟩ := hM.out
    obtain ⟨_, _, _, ⟨_, l0, l1, _, _⟩⟩ := hN2.out
    go_wp2_with (first | (go_at_call 12; (with_reducible refine (HNS.out _ (HX0.out _ hM.out.below) (HP0.out _ hM.out.below)).mono ?_); rintro e wS ⟨rfl, hb⟩; have hM := Lib.hid ((hM.out.to hb).to (al_b wS (.cells #[.int .i64 0, .int .i64 0] 28))); have hT := Lib.hid (two_new wS (.int .i64 0) (.int .i64 0) 28); clear hb; obtain ⟨_, ⟨_, t0, t1, t2⟩, hg1, hg2, ⟨_, k0, k1, f0, f1⟩, ⟨_, m0, m1, n0, n1⟩⟩ := hM.out; obtain ⟨_, z0, z1, _, _⟩ := hT.out) | (go_at_call 11; (with_reducible refine (HSF.out _ (HP0.out _ hM.out.below)).mono ?_); rintro e w4 ⟨rfl, hb⟩; have hM := Lib.hid (hM.out.to hb); obtain ⟨_, ⟨_, t0, t1, t2⟩, hg1, hg2, ⟨_, k0, k1, f0, f1⟩, ⟨_, m0, m1, n0, n1⟩⟩ := hM.out; have hM := Lib.hid (hM.out.setu 0 0); clear hb) | (go_at_call 13; (with_reducible refine (HNR.out _ (HX0.out _ hM.out.below) (HP0.out _ hM.out.below)).mono ?_); rintro e w6 ⟨rfl, hb⟩; have hM := Lib.hid (hM.out.to hb); clear hb; obtain ⟨_, ⟨_, t0, t1, t2⟩, hg1, hg2, ⟨_, k0, k1, f0, f1⟩, ⟨_, m0, m1, n0, n1⟩⟩ := hM.out) | (go_at_call 14; (with_reducible refine (HVO.out _ (HL0.out _ hM.out.below)).mono ?_); rintro e w7 ⟨rfl, rfl⟩) | (go_at_call 16; refine (in_any _ _ _ _).mono ?_; rintro e w' ⟨rfl, rfl⟩) | (go_at_call 15; refine (at_any _ _ _).mono ?_; rintro e w8 ⟨rfl, hb⟩; have hM := Lib.hid (hM.out.to hb); obtain ⟨_, ⟨_, t0, t1, t2⟩, hg1, hg2, ⟨_, k0, k1, f0, f1⟩, ⟨_, m0, m1, n0, n1⟩⟩ := hM.out; have hM := Lib.hid (hM.out.setw 3 (-6)); clear hb) | (go_at_call 18; (with_reducible refine (HNA.out _ (HX0.out _ hM.out.below) (HL0.out _ hM.out.below)).mono ?_); rintro e wA ⟨vA, rfl, ho, hb⟩; have hM := Lib.hid ((hM.out.to hb).to (al_b wA (.cells #[.int .i64 3, .int .i64 (-6)] 28))); have hT := Lib.hid (two_new wA (.int .i64 3) (.int .i64 (-6)) 28); have HOA := Lib.hid (own_to ho (al_b wA (.cells #[.int .i64 3, .int .i64 (-6)] 28)));  clear hb ho; obtain ⟨_, ⟨_, t0, t1, t2⟩, hg1, hg2, ⟨_, k0, k1, f0, f1⟩, ⟨_, m0, m1, n0, n1⟩⟩ := hM.out; obtain ⟨_, z0, z1, _, _⟩ := hT.out) | (go_at_call 19; obtain ⟨_, _, _, hci⟩ := in_nil HOA.out; (with_reducible refine hci.mono ?_); rintro e wI ⟨rfl, hb⟩; have hM := Lib.hid (hM.out.to hb); clear hb))
    go_ret
    exact ⟨rfl, hM.out.below⟩
set_option maxHeartbeats 4000000 in
theorem mspec_nC (hNv : NvC) (hNa : NaC) (hNs : NsC) (hNb : NbC) (x : NT) (a2 : Option Addr) (c2 : Nat) (v : List Int) (op : Int) (a3 : Option Addr) (c3 : Nat) (plan : List Int) (w : World) (hX : NTIn w w.heap.size x) (hL : Lst w w.heap.size a2 c2 v) (hz2 : a2 = none → c2 = 0) (hP : Lst w w.heap.size a3 c3 plan) (h0 : (nfF x).1 = 0) (hsp : (spF x.ops.length plan).1 ≠ 0) (hok : okL 1000000 x.init.length v = true) (hin : inB op 0 ((x.ops.length : Int) - 1) = false) :
    Calls Try.prog 3 #[.agg #[.slice x.ai x.init.length x.ci, .slice x.ag x.goal.length x.cg, .slice x.ao x.ops.length x.co], .slice a2 v.length c2, .int .i64 op, .slice a3 plan.length c3] w fun e w' => e = .returned (.bool true) ∧ Below w.heap.size w w' := by
  obtain ⟨hv, hz⟩ := nf_val h0
  have hno := Nat.le_trans hX.ops.le hX.ops.max
  unfold maxLen at hno
  have HX0 := Lib.hid (fun (W : World) (h : Below w.heap.size w W) => hX.to h h.size)
  have HL0 := Lib.hid (fun (W : World) (h : Below w.heap.size w W) => hL.to h h.size)
  have HP0 := Lib.hid (fun (W : World) (h : Below w.heap.size w W) => hP.to h h.size)
  have HB0 := Lib.hid (al_b w (.cells #[.slice x.ai x.init.length x.ci, .slice x.ag x.goal.length x.cg, .slice x.ao x.ops.length x.co] 26))
  have HBX := Lib.hid (nbox_new w x 26)
  have HNF := Lib.hid (numericFault_any x _ (HX0.out _ HB0.out))
  have HNV := Lib.hid (fun (W : World) (h : NTIn W W.heap.size x) => hNv x W h)
  have HNS := Lib.hid (fun (W : World) (h : NTIn W W.heap.size x) (h2 : Lst W W.heap.size a3 c3 plan) => hNs x a3 c3 plan W h h2)
  have HNA := Lib.hid (fun (W : World) (h : NTIn W W.heap.size x) (h2 : Lst W W.heap.size a2 c2 v) => hNa x a2 c2 v op W h h2 hz2)
  have HSF := Lib.hid (fun (W : World) (h2 : Lst W W.heap.size a3 c3 plan) => stepsFault_any x.ops.length (by unfold maxLen; omega) a3 c3 plan W h2)
  have HVO := Lib.hid (fun (W : World) (h2 : Lst W W.heap.size a2 c2 v) => valuesOk_any x.init.length a2 c2 v W h2)
  rw [hz] at HNF HNV
  rw [hok] at HVO
  have hno2 : IntKind.i64.wrap ((x.ops.length : Int) - 1) = (x.ops.length : Int) - 1 := IntWalk.i64_in _ (by omega)
  have e1 : nspF x plan = spF x.ops.length plan := by unfold nspF; rw [if_neg (by simp [h0])]
  have e2 : nspB x plan = false := by unfold nspB; rw [e1, decide_eq_false hsp]; rfl
  rw [e1, e2] at HNS
  have hsp1 : ((spF x.ops.length plan).1 == 0) = false := by simpa using hsp
  clear e1 e2 hsp
  have e3 : napF x v op = (3, -6) := by unfold napF; rw [if_neg (by simp [h0]), if_neg (by simp [hok]), if_pos hin]
  have e4 : napL x v op = [] := by unfold napL; rw [e3]; rfl
  rw [e3, e4] at HNA
  clear e3 e4
  clear hX hL hP h0 hv hz
  go_enter Try.func3, Try.ntmps3
  go_wp2_with (go_at_call 8; (with_reducible refine HNF.out.mono ?_); rintro e wF ⟨rfl, hb⟩; have hN := Lib.hid (wn_new (HB0.out.trans (hb.mono HB0.out.size)) (HBX.out.to hb HBX.out.lt) 0 0); clear hb)
  generalize hg : wF.heap.size = g at *
  generalize hW : wF.alloc (.cells #[.int .i64 0, .int .i64 0] 28) = W1 at *
  clear hg hW
  have HSO := Lib.hid (fun (Y : World) (h : Below W1.heap.size W1 Y) => (⟨(hN.out.to h).box.c0, (hN.out.to h).box.c1, (hN.out.to h).box.c2, (hN.out.to h).two.fst, (hN.out.to h).two.snd, h⟩ : Y.cell? ⟨w.heap.size, 0, none⟩ = some (.slice x.ai x.init.length x.ci) ∧ Y.cell? ⟨w.heap.size, 1, none⟩ = some (.slice x.ag x.goal.length x.cg) ∧ Y.cell? ⟨w.heap.size, 2, none⟩ = some (.slice x.ao x.ops.length x.co) ∧ Y.cell? ⟨g, 0, none⟩ = some (.int .i64 0) ∧ Y.cell? ⟨g, 1, none⟩ = some (.int .i64 0) ∧ Below W1.heap.size W1 Y))
  have HX1 := Lib.hid (fun (Y : World) (h : Below W1.heap.size W1 Y) => HX0.out _ (hN.out.to h).below)
  have hww := Below.refl W1.heap.size W1
  go_region_held3 (fun Y => Y.cell? ⟨w.heap.size, 0, none⟩ = some (.slice x.ai x.init.length x.ci) ∧ Y.cell? ⟨w.heap.size, 1, none⟩ = some (.slice x.ag x.goal.length x.cg) ∧ Y.cell? ⟨w.heap.size, 2, none⟩ = some (.slice x.ao x.ops.length x.co) ∧ Y.cell? ⟨g, 0, none⟩ = some (.int .i64 0) ∧ Y.cell? ⟨g, 1, none⟩ = some (.int .i64 0) ∧ Below W1.heap.size W1 Y) (first | (refine ⟨?_, ?_, ?_, ?_, ?_, ?_⟩ <;> assumption) | (exact HSO.out _ hww.drew) | (exact HSO.out _ hww) | (exact HSO.out _ (bel_up (last6n (by assumption)) (by assumption))) | (exact HSO.out _ (b1d (last6n (by assumption))))) (first | (go_at_call 9; refine (counts_any hNv hNa hNs hNb _).mono ?_; rintro e wc ⟨rfl, hb⟩) | (go_at_call 10; refine (HNV.out _ (HX1.out _ (last6n (by assumption)))).mono ?_; rintro e wv ⟨rfl, hb⟩))
  all_goals
    have hN2 := Lib.hid (hN.out.to (last6n (by assumption)))
    have hM := Lib.hid (ms_new hN2.out 0 0)
    obtain ⟨_, ⟨_, t0, t1, t2⟩, hg1, hg2, ⟨_, k0, k1, f0, f1⟩, ⟨_, m0, m1, n0, n1⟩⟩ := hM.out
    obtain ⟨_, _, _, ⟨_, l0, l1, _, _⟩⟩ := hN2.out
    go_wp2_with (first | (go_at_call 12; (with_reducible refine (HNS.out _ (HX0.out _ hM.out.below) (HP0.out _ hM.out.below)).mono ?_); rintro e wS ⟨rfl, hb⟩; have hM := Lib.hid ((hM.out.to hb).to (al_b wS (.cells #[.int .i64 (spF x.ops.length plan).1, .int .i64 (spF x.ops.length plan).2] 28))); have hT := Lib.hid (two_new wS (.int .i64 (spF x.ops.length plan).1) (.int .i64 (spF x.ops.length plan).2) 28); clear hb; obtain ⟨_, ⟨_, t0, t1, t2⟩, hg1, hg2, ⟨_, k0, k1, f0, f1⟩, ⟨_, m0, m1, n0, n1⟩⟩ := hM.out; obtain ⟨_, z0, z1, _, _⟩ := hT.out) | (go_at_call 11; (with_reducible refine (HSF.out _ (HP0.out _ hM.out.below)).mono ?_); rintro e w4 ⟨rfl, hb⟩; have hM := Lib.hid (hM.out.to hb); obtain ⟨_, ⟨_, t0, t1, t2⟩, hg1, hg2, ⟨_, k0, k1, f0, f1⟩, ⟨_, m0, m1, n0, n1⟩⟩ := hM.out; have hM := Lib.hid (hM.out.setu (spF x.ops.length plan).1 (spF x.ops.length plan).2); clear hb) | (go_at_call 14; (with_reducible refine (HVO.out _ (HL0.out _ hM.out.below)).mono ?_); rintro e w7 ⟨rfl, rfl⟩) | (go_at_call 16; refine (in_any _ _ _ _).mono ?_; rintro e w' ⟨rfl, rfl⟩) | (go_at_call 15; refine (at_any _ _ _).mono ?_; rintro e w8 ⟨rfl, hb⟩; have hM := Lib.hid (hM.out.to hb); obtain ⟨_, ⟨_, t0, t1, t2⟩, hg1, hg2, ⟨_, k0, k1, f0, f1⟩, ⟨_, m0, m1, n0, n1⟩⟩ := hM.out; have hM := Lib.hid (hM.out.setw 3 (-6)); clear hb) | (go_at_call 18; (with_reducible refine (HNA.out _ (HX0.out _ hM.out.below) (HL0.out _ hM.out.below)).mono ?_); rintro e wA ⟨vA, rfl, ho, hb⟩; have hM := Lib.hid ((hM.out.to hb).to (al_b wA (.cells #[.int .i64 3, .int .i64 (-6)] 28))); have hT := Lib.hid (two_new wA (.int .i64 3) (.int .i64 (-6)) 28); have HOA := Lib.hid (own_to ho (al_b wA (.cells #[.int .i64 3, .int .i64 (-6)] 28)));  clear hb ho; obtain ⟨_, ⟨_, t0, t1, t2⟩, hg1, hg2, ⟨_, k0, k1, f0, f1⟩, ⟨_, m0, m1, n0, n1⟩⟩ := hM.out; obtain ⟨_, z0, z1, _, _⟩ := hT.out) | (go_at_call 19; obtain ⟨_, _, _, hci⟩ := in_nil HOA.out; (with_reducible refine hci.mono ?_); rintro e wI ⟨rfl, hb⟩; have hM := Lib.hid (hM.out.to hb); clear hb))
    go_ret
    exact ⟨rfl, hM.out.below⟩
set_option maxHeartbeats 4000000 in
theorem mspec_zD (hNv : NvC) (hNa : NaC) (hNs : NsC) (hNb : NbC) (x : NT) (a2 : Option Addr) (c2 : Nat) (v : List Int) (m : Nat) (a3 : Option Addr) (c3 : Nat) (plan : List Int) (w : World) (hX : NTIn w w.heap.size x) (hL : Lst w w.heap.size a2 c2 v) (hz2 : a2 = none → c2 = 0) (hP : Lst w w.heap.size a3 c3 plan) (h0 : (nfF x).1 = 0) (hsp : (spF x.ops.length plan).1 = 0) (hok : okL 1000000 x.init.length v = true) (hm : m < x.ops.length) (hnf : (naf (nop x.ops m) v).2 ≠ 0) :
    Calls Try.prog 3 #[.agg #[.slice x.ai x.init.length x.ci, .slice x.ag x.goal.length x.cg, .slice x.ao x.ops.length x.co], .slice a2 v.length c2, .int .i64 (m : Int), .slice a3 plan.length c3] w fun e w' => e = .returned (.bool true) ∧ Below w.heap.size w w' := by
  obtain ⟨hv, hz⟩ := nf_val h0
  have hno := Nat.le_trans hX.ops.le hX.ops.max
  unfold maxLen at hno
  have HX0 := Lib.hid (fun (W : World) (h : Below w.heap.size w W) => hX.to h h.size)
  have HL0 := Lib.hid (fun (W : World) (h : Below w.heap.size w W) => hL.to h h.size)
  have HP0 := Lib.hid (fun (W : World) (h : Below w.heap.size w W) => hP.to h h.size)
  have HB0 := Lib.hid (al_b w (.cells #[.slice x.ai x.init.length x.ci, .slice x.ag x.goal.length x.cg, .slice x.ao x.ops.length x.co] 26))
  have HBX := Lib.hid (nbox_new w x 26)
  have HNF := Lib.hid (numericFault_any x _ (HX0.out _ HB0.out))
  have HNV := Lib.hid (fun (W : World) (h : NTIn W W.heap.size x) => hNv x W h)
  have HNS := Lib.hid (fun (W : World) (h : NTIn W W.heap.size x) (h2 : Lst W W.heap.size a3 c3 plan) => hNs x a3 c3 plan W h h2)
  have HNA := Lib.hid (fun (W : World) (h : NTIn W W.heap.size x) (h2 : Lst W W.heap.size a2 c2 v) => hNa x a2 c2 v (m : Int) W h h2 hz2)
  have HSF := Lib.hid (fun (W : World) (h2 : Lst W W.heap.size a3 c3 plan) => stepsFault_any x.ops.length (by unfold maxLen; omega) a3 c3 plan W h2)
  have HVO := Lib.hid (fun (W : World) (h2 : Lst W W.heap.size a2 c2 v) => valuesOk_any x.init.length a2 c2 v W h2)
  rw [hz] at HNF HNV
  rw [hok] at HVO
  have hno2 : IntKind.i64.wrap ((x.ops.length : Int) - 1) = (x.ops.length : Int) - 1 := IntWalk.i64_in _ (by omega)
  obtain ⟨hsz, hpl⟩ := sp_zero hsp
  have e1 : nspF x plan = (0, 0) := by unfold nspF; rw [if_neg (by simp [h0]), hsz]
  have e2 : nspB x plan = nsol x plan := by unfold nspB; rw [e1]; rfl
  rw [e1, e2] at HNS
  rw [hsz] at HSF
  have HNR := Lib.hid (fun (W : World) (h : NTIn W W.heap.size x) (h2 : Lst W W.heap.size a3 c3 plan) => numericSolves_any x hv a3 c3 plan hpl W h h2)
  generalize nsol x plan = ns at *
  have hbb : (ns != ns) = false := by cases ns <;> rfl
  clear e1 e2 hsz hpl hsp
  have hin : inB (m : Int) 0 ((x.ops.length : Int) - 1) = true := inB_iff.2 (by omega)
  have hvk : VOk x.init.length v := ⟨(okL_iff.1 hok).1, (okL_iff.1 hok).2⟩
  have HNN := Lib.hid (fun (W : World) (h : NTIn W W.heap.size x) (h2 : Lst W W.heap.size a2 c2 v) => numericAfter_any x hv a2 c2 v hvk m hm W h h2)
  have e0 : (naf (nop x.ops m) v).1 = [] := naf_bad hnf
  have e3 : napF x v (m : Int) = ((naf (nop x.ops m) v).2, (m : Int)) := by unfold napF; rw [if_neg (by simp [h0]), if_neg (by simp [hok]), if_neg (by simp [hin]), Int.toNat_natCast, if_pos hnf]
  have e4 : napL x v (m : Int) = [] := by unfold napL; rw [e3, if_neg hnf]
  rw [e3, e4] at HNA
  unfold NaPost at HNN
  rw [e0] at HNN
  have hne : ((naf (nop x.ops m) v).2 != 0) = true := by simpa using hnf
  have hne2 : ((naf (nop x.ops m) v).2 == 0) = false := by simpa using hnf
  clear e0 e3 e4 hnf hvk
  clear hX hL hP h0 hv hz
  go_enter Try.func3, Try.ntmps3
  go_wp2_with (go_at_call 8; (with_reducible refine HNF.out.mono ?_); rintro e wF ⟨rfl, hb⟩; have hN := Lib.hid (wn_new (HB0.out.trans (hb.mono HB0.out.size)) (HBX.out.to hb HBX.out.lt) 0 0); clear hb)
  generalize hg : wF.heap.size = g at *
  generalize hW : wF.alloc (.cells #[.int .i64 0, .int .i64 0] 28) = W1 at *
  clear hg hW
  have HSO := Lib.hid (fun (Y : World) (h : Below W1.heap.size W1 Y) => (⟨(hN.out.to h).box.c0, (hN.out.to h).box.c1, (hN.out.to h).box.c2, (hN.out.to h).two.fst, (hN.out.to h).two.snd, h⟩ : Y.cell? ⟨w.heap.size, 0, none⟩ = some (.slice x.ai x.init.length x.ci) ∧ Y.cell? ⟨w.heap.size, 1, none⟩ = some (.slice x.ag x.goal.length x.cg) ∧ Y.cell? ⟨w.heap.size, 2, none⟩ = some (.slice x.ao x.ops.length x.co) ∧ Y.cell? ⟨g, 0, none⟩ = some (.int .i64 0) ∧ Y.cell? ⟨g, 1, none⟩ = some (.int .i64 0) ∧ Below W1.heap.size W1 Y))
  have HX1 := Lib.hid (fun (Y : World) (h : Below W1.heap.size W1 Y) => HX0.out _ (hN.out.to h).below)
  have hww := Below.refl W1.heap.size W1
  go_region_held3 (fun Y => Y.cell? ⟨w.heap.size, 0, none⟩ = some (.slice x.ai x.init.length x.ci) ∧ Y.cell? ⟨w.heap.size, 1, none⟩ = some (.slice x.ag x.goal.length x.cg) ∧ Y.cell? ⟨w.heap.size, 2, none⟩ = some (.slice x.ao x.ops.length x.co) ∧ Y.cell? ⟨g, 0, none⟩ = some (.int .i64 0) ∧ Y.cell? ⟨g, 1, none⟩ = some (.int .i64 0) ∧ Below W1.heap.size W1 Y) (first | (refine ⟨?_, ?_, ?_, ?_, ?_, ?_⟩ <;> assumption) | (exact HSO.out _ hww.drew) | (exact HSO.out _ hww) | (exact HSO.out _ (bel_up (last6n (by assumption)) (by assumption))) | (exact HSO.out _ (b1d (last6n (by assumption))))) (first | (go_at_call 9; refine (counts_any hNv hNa hNs hNb _).mono ?_; rintro e wc ⟨rfl, hb⟩) | (go_at_call 10; refine (HNV.out _ (HX1.out _ (last6n (by assumption)))).mono ?_; rintro e wv ⟨rfl, hb⟩))
  all_goals
    have hN2 := Lib.hid (hN.out.to (last6n (by assumption)))
    have hM := Lib.hid (ms_new hN2.out 0 0)
    obtain ⟨_, ⟨_, t0, t1, t2⟩, hg1, hg2, ⟨_, k0, k1, f0, f1⟩, ⟨_, m0, m1, n0, n1⟩⟩ := hM.out
    obtain ⟨_, _, _, ⟨_, l0, l1, _, _⟩⟩ := hN2.out
    go_wp2_with (first | (go_at_call 12; (with_reducible refine (HNS.out _ (HX0.out _ hM.out.below) (HP0.out _ hM.out.below)).mono ?_); rintro e wS ⟨rfl, hb⟩; have hM := Lib.hid ((hM.out.to hb).to (al_b wS (.cells #[.int .i64 0, .int .i64 0] 28))); have hT := Lib.hid (two_new wS (.int .i64 0) (.int .i64 0) 28); clear hb; obtain ⟨_, ⟨_, t0, t1, t2⟩, hg1, hg2, ⟨_, k0, k1, f0, f1⟩, ⟨_, m0, m1, n0, n1⟩⟩ := hM.out; obtain ⟨_, z0, z1, _, _⟩ := hT.out) | (go_at_call 11; (with_reducible refine (HSF.out _ (HP0.out _ hM.out.below)).mono ?_); rintro e w4 ⟨rfl, hb⟩; have hM := Lib.hid (hM.out.to hb); obtain ⟨_, ⟨_, t0, t1, t2⟩, hg1, hg2, ⟨_, k0, k1, f0, f1⟩, ⟨_, m0, m1, n0, n1⟩⟩ := hM.out; have hM := Lib.hid (hM.out.setu 0 0); clear hb) | (go_at_call 13; (with_reducible refine (HNR.out _ (HX0.out _ hM.out.below) (HP0.out _ hM.out.below)).mono ?_); rintro e w6 ⟨rfl, hb⟩; have hM := Lib.hid (hM.out.to hb); clear hb; obtain ⟨_, ⟨_, t0, t1, t2⟩, hg1, hg2, ⟨_, k0, k1, f0, f1⟩, ⟨_, m0, m1, n0, n1⟩⟩ := hM.out) | (go_at_call 14; (with_reducible refine (HVO.out _ (HL0.out _ hM.out.below)).mono ?_); rintro e w7 ⟨rfl, rfl⟩) | (go_at_call 16; refine (in_any _ _ _ _).mono ?_; rintro e w' ⟨rfl, rfl⟩) | (go_at_call 15; refine (at_any _ _ _).mono ?_; rintro e w8 ⟨rfl, hb⟩; have hM := Lib.hid (hM.out.to hb); obtain ⟨_, ⟨_, t0, t1, t2⟩, hg1, hg2, ⟨_, k0, k1, f0, f1⟩, ⟨_, m0, m1, n0, n1⟩⟩ := hM.out; have hM := Lib.hid (hM.out.setw (naf (nop x.ops m) v).2 m); clear hb) | (go_at_call 17; (with_reducible refine (HNN.out _ (HX0.out _ hM.out.below) (HL0.out _ hM.out.below)).mono ?_); rintro e w9 ⟨aN, cN, rfl, hl, _, hb⟩; have HLN := Lib.hid (fun (V : World) => (⟨nums_nil _ _ _, hl.le, hl.max⟩ : Lst V V.heap.size aN cN [])); have hM := Lib.hid (hM.out.to hb);  clear hl hb; obtain ⟨_, ⟨_, t0, t1, t2⟩, hg1, hg2, ⟨_, k0, k1, f0, f1⟩, ⟨_, m0, m1, n0, n1⟩⟩ := hM.out) | (go_at_call 18; (with_reducible refine (HNA.out _ (HX0.out _ hM.out.below) (HL0.out _ hM.out.below)).mono ?_); rintro e wA ⟨vA, rfl, ho, hb⟩; have hM := Lib.hid ((hM.out.to hb).to (al_b wA (.cells #[.int .i64 (naf (nop x.ops m) v).2, .int .i64 m] 28))); have hT := Lib.hid (two_new wA (.int .i64 (naf (nop x.ops m) v).2) (.int .i64 m) 28); have HOA := Lib.hid (own_to ho (al_b wA (.cells #[.int .i64 (naf (nop x.ops m) v).2, .int .i64 m] 28)));  clear hb ho; obtain ⟨_, ⟨_, t0, t1, t2⟩, hg1, hg2, ⟨_, k0, k1, f0, f1⟩, ⟨_, m0, m1, n0, n1⟩⟩ := hM.out; obtain ⟨_, z0, z1, _, _⟩ := hT.out) | (go_at_call 19; refine (in_own HOA.out (HLN.out _)).mono ?_; rintro e wI ⟨rfl, hb⟩; have hM := Lib.hid (hM.out.to hb); clear hb))
    go_ret
    exact ⟨rfl, hM.out.below⟩
set_option maxHeartbeats 4000000 in
theorem mspec_nD (hNv : NvC) (hNa : NaC) (hNs : NsC) (hNb : NbC) (x : NT) (a2 : Option Addr) (c2 : Nat) (v : List Int) (m : Nat) (a3 : Option Addr) (c3 : Nat) (plan : List Int) (w : World) (hX : NTIn w w.heap.size x) (hL : Lst w w.heap.size a2 c2 v) (hz2 : a2 = none → c2 = 0) (hP : Lst w w.heap.size a3 c3 plan) (h0 : (nfF x).1 = 0) (hsp : (spF x.ops.length plan).1 ≠ 0) (hok : okL 1000000 x.init.length v = true) (hm : m < x.ops.length) (hnf : (naf (nop x.ops m) v).2 ≠ 0) :
    Calls Try.prog 3 #[.agg #[.slice x.ai x.init.length x.ci, .slice x.ag x.goal.length x.cg, .slice x.ao x.ops.length x.co], .slice a2 v.length c2, .int .i64 (m : Int), .slice a3 plan.length c3] w fun e w' => e = .returned (.bool true) ∧ Below w.heap.size w w' := by
  obtain ⟨hv, hz⟩ := nf_val h0
  have hno := Nat.le_trans hX.ops.le hX.ops.max
  unfold maxLen at hno
  have HX0 := Lib.hid (fun (W : World) (h : Below w.heap.size w W) => hX.to h h.size)
  have HL0 := Lib.hid (fun (W : World) (h : Below w.heap.size w W) => hL.to h h.size)
  have HP0 := Lib.hid (fun (W : World) (h : Below w.heap.size w W) => hP.to h h.size)
  have HB0 := Lib.hid (al_b w (.cells #[.slice x.ai x.init.length x.ci, .slice x.ag x.goal.length x.cg, .slice x.ao x.ops.length x.co] 26))
  have HBX := Lib.hid (nbox_new w x 26)
  have HNF := Lib.hid (numericFault_any x _ (HX0.out _ HB0.out))
  have HNV := Lib.hid (fun (W : World) (h : NTIn W W.heap.size x) => hNv x W h)
  have HNS := Lib.hid (fun (W : World) (h : NTIn W W.heap.size x) (h2 : Lst W W.heap.size a3 c3 plan) => hNs x a3 c3 plan W h h2)
  have HNA := Lib.hid (fun (W : World) (h : NTIn W W.heap.size x) (h2 : Lst W W.heap.size a2 c2 v) => hNa x a2 c2 v (m : Int) W h h2 hz2)
  have HSF := Lib.hid (fun (W : World) (h2 : Lst W W.heap.size a3 c3 plan) => stepsFault_any x.ops.length (by unfold maxLen; omega) a3 c3 plan W h2)
  have HVO := Lib.hid (fun (W : World) (h2 : Lst W W.heap.size a2 c2 v) => valuesOk_any x.init.length a2 c2 v W h2)
  rw [hz] at HNF HNV
  rw [hok] at HVO
  have hno2 : IntKind.i64.wrap ((x.ops.length : Int) - 1) = (x.ops.length : Int) - 1 := IntWalk.i64_in _ (by omega)
  have e1 : nspF x plan = spF x.ops.length plan := by unfold nspF; rw [if_neg (by simp [h0])]
  have e2 : nspB x plan = false := by unfold nspB; rw [e1, decide_eq_false hsp]; rfl
  rw [e1, e2] at HNS
  have hsp1 : ((spF x.ops.length plan).1 == 0) = false := by simpa using hsp
  clear e1 e2 hsp
  have hin : inB (m : Int) 0 ((x.ops.length : Int) - 1) = true := inB_iff.2 (by omega)
  have hvk : VOk x.init.length v := ⟨(okL_iff.1 hok).1, (okL_iff.1 hok).2⟩
  have HNN := Lib.hid (fun (W : World) (h : NTIn W W.heap.size x) (h2 : Lst W W.heap.size a2 c2 v) => numericAfter_any x hv a2 c2 v hvk m hm W h h2)
  have e0 : (naf (nop x.ops m) v).1 = [] := naf_bad hnf
  have e3 : napF x v (m : Int) = ((naf (nop x.ops m) v).2, (m : Int)) := by unfold napF; rw [if_neg (by simp [h0]), if_neg (by simp [hok]), if_neg (by simp [hin]), Int.toNat_natCast, if_pos hnf]
  have e4 : napL x v (m : Int) = [] := by unfold napL; rw [e3, if_neg hnf]
  rw [e3, e4] at HNA
  unfold NaPost at HNN
  rw [e0] at HNN
  have hne : ((naf (nop x.ops m) v).2 != 0) = true := by simpa using hnf
  have hne2 : ((naf (nop x.ops m) v).2 == 0) = false := by simpa using hnf
  clear e0 e3 e4 hnf hvk
  clear hX hL hP h0 hv hz
  go_enter Try.func3, Try.ntmps3
  go_wp2_with (go_at_call 8; (with_reducible refine HNF.out.mono ?_); rintro e wF ⟨rfl, hb⟩; have hN := Lib.hid (wn_new (HB0.out.trans (hb.mono HB0.out.size)) (HBX.out.to hb HBX.out.lt) 0 0); clear hb)
  generalize hg : wF.heap.size = g at *
  generalize hW : wF.alloc (.cells #[.int .i64 0, .int .i64 0] 28) = W1 at *
  clear hg hW
  have HSO := Lib.hid (fun (Y : World) (h : Below W1.heap.size W1 Y) => (⟨(hN.out.to h).box.c0, (hN.out.to h).box.c1, (hN.out.to h).box.c2, (hN.out.to h).two.fst, (hN.out.to h).two.snd, h⟩ : Y.cell? ⟨w.heap.size, 0, none⟩ = some (.slice x.ai x.init.length x.ci) ∧ Y.cell? ⟨w.heap.size, 1, none⟩ = some (.slice x.ag x.goal.length x.cg) ∧ Y.cell? ⟨w.heap.size, 2, none⟩ = some (.slice x.ao x.ops.length x.co) ∧ Y.cell? ⟨g, 0, none⟩ = some (.int .i64 0) ∧ Y.cell? ⟨g, 1, none⟩ = some (.int .i64 0) ∧ Below W1.heap.size W1 Y))
  have HX1 := Lib.hid (fun (Y : World) (h : Below W1.heap.size W1 Y) => HX0.out _ (hN.out.to h).below)
  have hww := Below.refl W1.heap.size W1
  go_region_held3 (fun Y => Y.cell? ⟨w.heap.size, 0, none⟩ = some (.slice x.ai x.init.length x.ci) ∧ Y.cell? ⟨w.heap.size, 1, none⟩ = some (.slice x.ag x.goal.length x.cg) ∧ Y.cell? ⟨w.heap.size, 2, none⟩ = some (.slice x.ao x.ops.length x.co) ∧ Y.cell? ⟨g, 0, none⟩ = some (.int .i64 0) ∧ Y.cell? ⟨g, 1, none⟩ = some (.int .i64 0) ∧ Below W1.heap.size W1 Y) (first | (refine ⟨?_, ?_, ?_, ?_, ?_, ?_⟩ <;> assumption) | (exact HSO.out _ hww.drew) | (exact HSO.out _ hww) | (exact HSO.out _ (bel_up (last6n (by assumption)) (by assumption))) | (exact HSO.out _ (b1d (last6n (by assumption))))) (first | (go_at_call 9; refine (counts_any hNv hNa hNs hNb _).mono ?_; rintro e wc ⟨rfl, hb⟩) | (go_at_call 10; refine (HNV.out _ (HX1.out _ (last6n (by assumption)))).mono ?_; rintro e wv ⟨rfl, hb⟩))
  all_goals
    have hN2 := Lib.hid (hN.out.to (last6n (by assumption)))
    have hM := Lib.hid (ms_new hN2.out 0 0)
    obtain ⟨_, ⟨_, t0, t1, t2⟩, hg1, hg2, ⟨_, k0, k1, f0, f1⟩, ⟨_, m0, m1, n0, n1⟩⟩ := hM.out
    obtain ⟨_, _, _, ⟨_, l0, l1, _, _⟩⟩ := hN2.out
    go_wp2_with (first | (go_at_call 12; (with_reducible refine (HNS.out _ (HX0.out _ hM.out.below) (HP0.out _ hM.out.below)).mono ?_); rintro e wS ⟨rfl, hb⟩; have hM := Lib.hid ((hM.out.to hb).to (al_b wS (.cells #[.int .i64 (spF x.ops.length plan).1, .int .i64 (spF x.ops.length plan).2] 28))); have hT := Lib.hid (two_new wS (.int .i64 (spF x.ops.length plan).1) (.int .i64 (spF x.ops.length plan).2) 28); clear hb; obtain ⟨_, ⟨_, t0, t1, t2⟩, hg1, hg2, ⟨_, k0, k1, f0, f1⟩, ⟨_, m0, m1, n0, n1⟩⟩ := hM.out; obtain ⟨_, z0, z1, _, _⟩ := hT.out) | (go_at_call 11; (with_reducible refine (HSF.out _ (HP0.out _ hM.out.below)).mono ?_); rintro e w4 ⟨rfl, hb⟩; have hM := Lib.hid (hM.out.to hb); obtain ⟨_, ⟨_, t0, t1, t2⟩, hg1, hg2, ⟨_, k0, k1, f0, f1⟩, ⟨_, m0, m1, n0, n1⟩⟩ := hM.out; have hM := Lib.hid (hM.out.setu (spF x.ops.length plan).1 (spF x.ops.length plan).2); clear hb) | (go_at_call 14; (with_reducible refine (HVO.out _ (HL0.out _ hM.out.below)).mono ?_); rintro e w7 ⟨rfl, rfl⟩) | (go_at_call 16; refine (in_any _ _ _ _).mono ?_; rintro e w' ⟨rfl, rfl⟩) | (go_at_call 15; refine (at_any _ _ _).mono ?_; rintro e w8 ⟨rfl, hb⟩; have hM := Lib.hid (hM.out.to hb); obtain ⟨_, ⟨_, t0, t1, t2⟩, hg1, hg2, ⟨_, k0, k1, f0, f1⟩, ⟨_, m0, m1, n0, n1⟩⟩ := hM.out; have hM := Lib.hid (hM.out.setw (naf (nop x.ops m) v).2 m); clear hb) | (go_at_call 17; (with_reducible refine (HNN.out _ (HX0.out _ hM.out.below) (HL0.out _ hM.out.below)).mono ?_); rintro e w9 ⟨aN, cN, rfl, hl, _, hb⟩; have HLN := Lib.hid (fun (V : World) => (⟨nums_nil _ _ _, hl.le, hl.max⟩ : Lst V V.heap.size aN cN [])); have hM := Lib.hid (hM.out.to hb);  clear hl hb; obtain ⟨_, ⟨_, t0, t1, t2⟩, hg1, hg2, ⟨_, k0, k1, f0, f1⟩, ⟨_, m0, m1, n0, n1⟩⟩ := hM.out) | (go_at_call 18; (with_reducible refine (HNA.out _ (HX0.out _ hM.out.below) (HL0.out _ hM.out.below)).mono ?_); rintro e wA ⟨vA, rfl, ho, hb⟩; have hM := Lib.hid ((hM.out.to hb).to (al_b wA (.cells #[.int .i64 (naf (nop x.ops m) v).2, .int .i64 m] 28))); have hT := Lib.hid (two_new wA (.int .i64 (naf (nop x.ops m) v).2) (.int .i64 m) 28); have HOA := Lib.hid (own_to ho (al_b wA (.cells #[.int .i64 (naf (nop x.ops m) v).2, .int .i64 m] 28)));  clear hb ho; obtain ⟨_, ⟨_, t0, t1, t2⟩, hg1, hg2, ⟨_, k0, k1, f0, f1⟩, ⟨_, m0, m1, n0, n1⟩⟩ := hM.out; obtain ⟨_, z0, z1, _, _⟩ := hT.out) | (go_at_call 19; refine (in_own HOA.out (HLN.out _)).mono ?_; rintro e wI ⟨rfl, hb⟩; have hM := Lib.hid (hM.out.to hb); clear hb))
    go_ret
    exact ⟨rfl, hM.out.below⟩
set_option maxHeartbeats 4000000 in
theorem mspec_zE (hNv : NvC) (hNa : NaC) (hNs : NsC) (hNb : NbC) (x : NT) (a2 : Option Addr) (c2 : Nat) (v : List Int) (m : Nat) (a3 : Option Addr) (c3 : Nat) (plan : List Int) (w : World) (hX : NTIn w w.heap.size x) (hL : Lst w w.heap.size a2 c2 v) (hz2 : a2 = none → c2 = 0) (hP : Lst w w.heap.size a3 c3 plan) (h0 : (nfF x).1 = 0) (hsp : (spF x.ops.length plan).1 = 0) (hok : okL 1000000 x.init.length v = true) (hm : m < x.ops.length) (hnf : (naf (nop x.ops m) v).2 = 0) :
    Calls Try.prog 3 #[.agg #[.slice x.ai x.init.length x.ci, .slice x.ag x.goal.length x.cg, .slice x.ao x.ops.length x.co], .slice a2 v.length c2, .int .i64 (m : Int), .slice a3 plan.length c3] w fun e w' => e = .returned (.bool true) ∧ Below w.heap.size w w' := by
  obtain ⟨hv, hz⟩ := nf_val h0
  have hno := Nat.le_trans hX.ops.le hX.ops.max
  unfold maxLen at hno
  have HX0 := Lib.hid (fun (W : World) (h : Below w.heap.size w W) => hX.to h h.size)
  have HL0 := Lib.hid (fun (W : World) (h : Below w.heap.size w W) => hL.to h h.size)
  have HP0 := Lib.hid (fun (W : World) (h : Below w.heap.size w W) => hP.to h h.size)
  have HB0 := Lib.hid (al_b w (.cells #[.slice x.ai x.init.length x.ci, .slice x.ag x.goal.length x.cg, .slice x.ao x.ops.length x.co] 26))
  have HBX := Lib.hid (nbox_new w x 26)
  have HNF := Lib.hid (numericFault_any x _ (HX0.out _ HB0.out))
  have HNV := Lib.hid (fun (W : World) (h : NTIn W W.heap.size x) => hNv x W h)
  have HNS := Lib.hid (fun (W : World) (h : NTIn W W.heap.size x) (h2 : Lst W W.heap.size a3 c3 plan) => hNs x a3 c3 plan W h h2)
  have HNA := Lib.hid (fun (W : World) (h : NTIn W W.heap.size x) (h2 : Lst W W.heap.size a2 c2 v) => hNa x a2 c2 v (m : Int) W h h2 hz2)
  have HSF := Lib.hid (fun (W : World) (h2 : Lst W W.heap.size a3 c3 plan) => stepsFault_any x.ops.length (by unfold maxLen; omega) a3 c3 plan W h2)
  have HVO := Lib.hid (fun (W : World) (h2 : Lst W W.heap.size a2 c2 v) => valuesOk_any x.init.length a2 c2 v W h2)
  rw [hz] at HNF HNV
  rw [hok] at HVO
  have hno2 : IntKind.i64.wrap ((x.ops.length : Int) - 1) = (x.ops.length : Int) - 1 := IntWalk.i64_in _ (by omega)
  obtain ⟨hsz, hpl⟩ := sp_zero hsp
  have e1 : nspF x plan = (0, 0) := by unfold nspF; rw [if_neg (by simp [h0]), hsz]
  have e2 : nspB x plan = nsol x plan := by unfold nspB; rw [e1]; rfl
  rw [e1, e2] at HNS
  rw [hsz] at HSF
  have HNR := Lib.hid (fun (W : World) (h : NTIn W W.heap.size x) (h2 : Lst W W.heap.size a3 c3 plan) => numericSolves_any x hv a3 c3 plan hpl W h h2)
  generalize nsol x plan = ns at *
  have hbb : (ns != ns) = false := by cases ns <;> rfl
  clear e1 e2 hsz hpl hsp
  have hin : inB (m : Int) 0 ((x.ops.length : Int) - 1) = true := inB_iff.2 (by omega)
  have hvk : VOk x.init.length v := ⟨(okL_iff.1 hok).1, (okL_iff.1 hok).2⟩
  have HNN := Lib.hid (fun (W : World) (h : NTIn W W.heap.size x) (h2 : Lst W W.heap.size a2 c2 v) => numericAfter_any x hv a2 c2 v hvk m hm W h h2)
  have e3 : napF x v (m : Int) = (0, 0) := by unfold napF; rw [if_neg (by simp [h0]), if_neg (by simp [hok]), if_neg (by simp [hin]), Int.toNat_natCast, if_neg (by simp [hnf])]
  have e4 : napL x v (m : Int) = (naf (nop x.ops m) v).1 := by unfold napL; rw [e3, Int.toNat_natCast]; rfl
  rw [e3, e4] at HNA
  unfold NaPost at HNN
  rw [hnf] at HNN
  clear e3 e4 hnf hvk
  clear hX hL hP h0 hv hz
  go_enter Try.func3, Try.ntmps3
  go_wp2_with (go_at_call 8; (with_reducible refine HNF.out.mono ?_); rintro e wF ⟨rfl, hb⟩; have hN := Lib.hid (wn_new (HB0.out.trans (hb.mono HB0.out.size)) (HBX.out.to hb HBX.out.lt) 0 0); clear hb)
  generalize hg : wF.heap.size = g at *
  generalize hW : wF.alloc (.cells #[.int .i64 0, .int .i64 0] 28) = W1 at *
  clear hg hW
  have HSO := Lib.hid (fun (Y : World) (h : Below W1.heap.size W1 Y) => (⟨(hN.out.to h).box.c0, (hN.out.to h).box.c1, (hN.out.to h).box.c2, (hN.out.to h).two.fst, (hN.out.to h).two.snd, h⟩ : Y.cell? ⟨w.heap.size, 0, none⟩ = some (.slice x.ai x.init.length x.ci) ∧ Y.cell? ⟨w.heap.size, 1, none⟩ = some (.slice x.ag x.goal.length x.cg) ∧ Y.cell? ⟨w.heap.size, 2, none⟩ = some (.slice x.ao x.ops.length x.co) ∧ Y.cell? ⟨g, 0, none⟩ = some (.int .i64 0) ∧ Y.cell? ⟨g, 1, none⟩ = some (.int .i64 0) ∧ Below W1.heap.size W1 Y))
  have HX1 := Lib.hid (fun (Y : World) (h : Below W1.heap.size W1 Y) => HX0.out _ (hN.out.to h).below)
  have hww := Below.refl W1.heap.size W1
  go_region_held3 (fun Y => Y.cell? ⟨w.heap.size, 0, none⟩ = some (.slice x.ai x.init.length x.ci) ∧ Y.cell? ⟨w.heap.size, 1, none⟩ = some (.slice x.ag x.goal.length x.cg) ∧ Y.cell? ⟨w.heap.size, 2, none⟩ = some (.slice x.ao x.ops.length x.co) ∧ Y.cell? ⟨g, 0, none⟩ = some (.int .i64 0) ∧ Y.cell? ⟨g, 1, none⟩ = some (.int .i64 0) ∧ Below W1.heap.size W1 Y) (first | (refine ⟨?_, ?_, ?_, ?_, ?_, ?_⟩ <;> assumption) | (exact HSO.out _ hww.drew) | (exact HSO.out _ hww) | (exact HSO.out _ (bel_up (last6n (by assumption)) (by assumption))) | (exact HSO.out _ (b1d (last6n (by assumption))))) (first | (go_at_call 9; refine (counts_any hNv hNa hNs hNb _).mono ?_; rintro e wc ⟨rfl, hb⟩) | (go_at_call 10; refine (HNV.out _ (HX1.out _ (last6n (by assumption)))).mono ?_; rintro e wv ⟨rfl, hb⟩))
  all_goals
    have hN2 := Lib.hid (hN.out.to (last6n (by assumption)))
    have hM := Lib.hid (ms_new hN2.out 0 0)
    obtain ⟨_, ⟨_, t0, t1, t2⟩, hg1, hg2, ⟨_, k0, k1, f0, f1⟩, ⟨_, m0, m1, n0, n1⟩⟩ := hM.out
    obtain ⟨_, _, _, ⟨_, l0, l1, _, _⟩⟩ := hN2.out
    go_wp2_with (first | (go_at_call 12; (with_reducible refine (HNS.out _ (HX0.out _ hM.out.below) (HP0.out _ hM.out.below)).mono ?_); rintro e wS ⟨rfl, hb⟩; have hM := Lib.hid ((hM.out.to hb).to (al_b wS (.cells #[.int .i64 0, .int .i64 0] 28))); have hT := Lib.hid (two_new wS (.int .i64 0) (.int .i64 0) 28); clear hb; obtain ⟨_, ⟨_, t0, t1, t2⟩, hg1, hg2, ⟨_, k0, k1, f0, f1⟩, ⟨_, m0, m1, n0, n1⟩⟩ := hM.out; obtain ⟨_, z0, z1, _, _⟩ := hT.out) | (go_at_call 11; (with_reducible refine (HSF.out _ (HP0.out _ hM.out.below)).mono ?_); rintro e w4 ⟨rfl, hb⟩; have hM := Lib.hid (hM.out.to hb); obtain ⟨_, ⟨_, t0, t1, t2⟩, hg1, hg2, ⟨_, k0, k1, f0, f1⟩, ⟨_, m0, m1, n0, n1⟩⟩ := hM.out; have hM := Lib.hid (hM.out.setu 0 0); clear hb) | (go_at_call 13; (with_reducible refine (HNR.out _ (HX0.out _ hM.out.below) (HP0.out _ hM.out.below)).mono ?_); rintro e w6 ⟨rfl, hb⟩; have hM := Lib.hid (hM.out.to hb); clear hb; obtain ⟨_, ⟨_, t0, t1, t2⟩, hg1, hg2, ⟨_, k0, k1, f0, f1⟩, ⟨_, m0, m1, n0, n1⟩⟩ := hM.out) | (go_at_call 14; (with_reducible refine (HVO.out _ (HL0.out _ hM.out.below)).mono ?_); rintro e w7 ⟨rfl, rfl⟩) | (go_at_call 16; refine (in_any _ _ _ _).mono ?_; rintro e w' ⟨rfl, rfl⟩) | (go_at_call 17; (with_reducible refine (HNN.out _ (HX0.out _ hM.out.below) (HL0.out _ hM.out.below)).mono ?_); rintro e w9 ⟨aN, cN, rfl, hl, _, hb⟩; have HLN := Lib.hid (fun (V : World) (h : Below w9.heap.size w9 V) => hl.to h h.size); have hM := Lib.hid (hM.out.to hb); have hBn := Lib.hid (Below.refl w9.heap.size w9); clear hl hb; obtain ⟨_, ⟨_, t0, t1, t2⟩, hg1, hg2, ⟨_, k0, k1, f0, f1⟩, ⟨_, m0, m1, n0, n1⟩⟩ := hM.out) | (go_at_call 18; (with_reducible refine (HNA.out _ (HX0.out _ hM.out.below) (HL0.out _ hM.out.below)).mono ?_); rintro e wA ⟨vA, rfl, ho, hb⟩; have hM := Lib.hid ((hM.out.to hb).to (al_b wA (.cells #[.int .i64 0, .int .i64 0] 28))); have hT := Lib.hid (two_new wA (.int .i64 0) (.int .i64 0) 28); have HOA := Lib.hid (own_to ho (al_b wA (.cells #[.int .i64 0, .int .i64 0] 28))); have hBn := Lib.hid (hBn.out.trans ((hb.trans ((al_b wA (.cells #[.int .i64 0, .int .i64 0] 28)).mono hb.size)).mono hBn.out.size)); clear hb ho; obtain ⟨_, ⟨_, t0, t1, t2⟩, hg1, hg2, ⟨_, k0, k1, f0, f1⟩, ⟨_, m0, m1, n0, n1⟩⟩ := hM.out; obtain ⟨_, z0, z1, _, _⟩ := hT.out) | (go_at_call 19; (with_reducible refine (in_own HOA.out (HLN.out _ hBn.out)).mono ?_); rintro e wI ⟨rfl, hb⟩; have hM := Lib.hid (hM.out.to hb); clear hb))
    go_ret
    exact ⟨rfl, hM.out.below⟩
set_option maxHeartbeats 4000000 in
theorem mspec_nE (hNv : NvC) (hNa : NaC) (hNs : NsC) (hNb : NbC) (x : NT) (a2 : Option Addr) (c2 : Nat) (v : List Int) (m : Nat) (a3 : Option Addr) (c3 : Nat) (plan : List Int) (w : World) (hX : NTIn w w.heap.size x) (hL : Lst w w.heap.size a2 c2 v) (hz2 : a2 = none → c2 = 0) (hP : Lst w w.heap.size a3 c3 plan) (h0 : (nfF x).1 = 0) (hsp : (spF x.ops.length plan).1 ≠ 0) (hok : okL 1000000 x.init.length v = true) (hm : m < x.ops.length) (hnf : (naf (nop x.ops m) v).2 = 0) :
    Calls Try.prog 3 #[.agg #[.slice x.ai x.init.length x.ci, .slice x.ag x.goal.length x.cg, .slice x.ao x.ops.length x.co], .slice a2 v.length c2, .int .i64 (m : Int), .slice a3 plan.length c3] w fun e w' => e = .returned (.bool true) ∧ Below w.heap.size w w' := by
  obtain ⟨hv, hz⟩ := nf_val h0
  have hno := Nat.le_trans hX.ops.le hX.ops.max
  unfold maxLen at hno
  have HX0 := Lib.hid (fun (W : World) (h : Below w.heap.size w W) => hX.to h h.size)
  have HL0 := Lib.hid (fun (W : World) (h : Below w.heap.size w W) => hL.to h h.size)
  have HP0 := Lib.hid (fun (W : World) (h : Below w.heap.size w W) => hP.to h h.size)
  have HB0 := Lib.hid (al_b w (.cells #[.slice x.ai x.init.length x.ci, .slice x.ag x.goal.length x.cg, .slice x.ao x.ops.length x.co] 26))
  have HBX := Lib.hid (nbox_new w x 26)
  have HNF := Lib.hid (numericFault_any x _ (HX0.out _ HB0.out))
  have HNV := Lib.hid (fun (W : World) (h : NTIn W W.heap.size x) => hNv x W h)
  have HNS := Lib.hid (fun (W : World) (h : NTIn W W.heap.size x) (h2 : Lst W W.heap.size a3 c3 plan) => hNs x a3 c3 plan W h h2)
  have HNA := Lib.hid (fun (W : World) (h : NTIn W W.heap.size x) (h2 : Lst W W.heap.size a2 c2 v) => hNa x a2 c2 v (m : Int) W h h2 hz2)
  have HSF := Lib.hid (fun (W : World) (h2 : Lst W W.heap.size a3 c3 plan) => stepsFault_any x.ops.length (by unfold maxLen; omega) a3 c3 plan W h2)
  have HVO := Lib.hid (fun (W : World) (h2 : Lst W W.heap.size a2 c2 v) => valuesOk_any x.init.length a2 c2 v W h2)
  rw [hz] at HNF HNV
  rw [hok] at HVO
  have hno2 : IntKind.i64.wrap ((x.ops.length : Int) - 1) = (x.ops.length : Int) - 1 := IntWalk.i64_in _ (by omega)
  have e1 : nspF x plan = spF x.ops.length plan := by unfold nspF; rw [if_neg (by simp [h0])]
  have e2 : nspB x plan = false := by unfold nspB; rw [e1, decide_eq_false hsp]; rfl
  rw [e1, e2] at HNS
  have hsp1 : ((spF x.ops.length plan).1 == 0) = false := by simpa using hsp
  clear e1 e2 hsp
  have hin : inB (m : Int) 0 ((x.ops.length : Int) - 1) = true := inB_iff.2 (by omega)
  have hvk : VOk x.init.length v := ⟨(okL_iff.1 hok).1, (okL_iff.1 hok).2⟩
  have HNN := Lib.hid (fun (W : World) (h : NTIn W W.heap.size x) (h2 : Lst W W.heap.size a2 c2 v) => numericAfter_any x hv a2 c2 v hvk m hm W h h2)
  have e3 : napF x v (m : Int) = (0, 0) := by unfold napF; rw [if_neg (by simp [h0]), if_neg (by simp [hok]), if_neg (by simp [hin]), Int.toNat_natCast, if_neg (by simp [hnf])]
  have e4 : napL x v (m : Int) = (naf (nop x.ops m) v).1 := by unfold napL; rw [e3, Int.toNat_natCast]; rfl
  rw [e3, e4] at HNA
  unfold NaPost at HNN
  rw [hnf] at HNN
  clear e3 e4 hnf hvk
  clear hX hL hP h0 hv hz
  go_enter Try.func3, Try.ntmps3
  go_wp2_with (go_at_call 8; (with_reducible refine HNF.out.mono ?_); rintro e wF ⟨rfl, hb⟩; have hN := Lib.hid (wn_new (HB0.out.trans (hb.mono HB0.out.size)) (HBX.out.to hb HBX.out.lt) 0 0); clear hb)
  generalize hg : wF.heap.size = g at *
  generalize hW : wF.alloc (.cells #[.int .i64 0, .int .i64 0] 28) = W1 at *
  clear hg hW
  have HSO := Lib.hid (fun (Y : World) (h : Below W1.heap.size W1 Y) => (⟨(hN.out.to h).box.c0, (hN.out.to h).box.c1, (hN.out.to h).box.c2, (hN.out.to h).two.fst, (hN.out.to h).two.snd, h⟩ : Y.cell? ⟨w.heap.size, 0, none⟩ = some (.slice x.ai x.init.length x.ci) ∧ Y.cell? ⟨w.heap.size, 1, none⟩ = some (.slice x.ag x.goal.length x.cg) ∧ Y.cell? ⟨w.heap.size, 2, none⟩ = some (.slice x.ao x.ops.length x.co) ∧ Y.cell? ⟨g, 0, none⟩ = some (.int .i64 0) ∧ Y.cell? ⟨g, 1, none⟩ = some (.int .i64 0) ∧ Below W1.heap.size W1 Y))
  have HX1 := Lib.hid (fun (Y : World) (h : Below W1.heap.size W1 Y) => HX0.out _ (hN.out.to h).below)
  have hww := Below.refl W1.heap.size W1
  go_region_held3 (fun Y => Y.cell? ⟨w.heap.size, 0, none⟩ = some (.slice x.ai x.init.length x.ci) ∧ Y.cell? ⟨w.heap.size, 1, none⟩ = some (.slice x.ag x.goal.length x.cg) ∧ Y.cell? ⟨w.heap.size, 2, none⟩ = some (.slice x.ao x.ops.length x.co) ∧ Y.cell? ⟨g, 0, none⟩ = some (.int .i64 0) ∧ Y.cell? ⟨g, 1, none⟩ = some (.int .i64 0) ∧ Below W1.heap.size W1 Y) (first | (refine ⟨?_, ?_, ?_, ?_, ?_, ?_⟩ <;> assumption) | (exact HSO.out _ hww.drew) | (exact HSO.out _ hww) | (exact HSO.out _ (bel_up (last6n (by assumption)) (by assumption))) | (exact HSO.out _ (b1d (last6n (by assumption))))) (first | (go_at_call 9; refine (counts_any hNv hNa hNs hNb _).mono ?_; rintro e wc ⟨rfl, hb⟩) | (go_at_call 10; refine (HNV.out _ (HX1.out _ (last6n (by assumption)))).mono ?_; rintro e wv ⟨rfl, hb⟩))
  all_goals
    have hN2 := Lib.hid (hN.out.to (last6n (by assumption)))
    have hM := Lib.hid (ms_new hN2.out 0 0)
    obtain ⟨_, ⟨_, t0, t1, t2⟩, hg1, hg2, ⟨_, k0, k1, f0, f1⟩, ⟨_, m0, m1, n0, n1⟩⟩ := hM.out
    obtain ⟨_, _, _, ⟨_, l0, l1, _, _⟩⟩ := hN2.out
    go_wp2_with (first | (go_at_call 12; (with_reducible refine (HNS.out _ (HX0.out _ hM.out.below) (HP0.out _ hM.out.below)).mono ?_); rintro e wS ⟨rfl, hb⟩; have hM := Lib.hid ((hM.out.to hb).to (al_b wS (.cells #[.int .i64 (spF x.ops.length plan).1, .int .i64 (spF x.ops.length plan).2] 28))); have hT := Lib.hid (two_new wS (.int .i64 (spF x.ops.length plan).1) (.int .i64 (spF x.ops.length plan).2) 28); clear hb; obtain ⟨_, ⟨_, t0, t1, t2⟩, hg1, hg2, ⟨_, k0, k1, f0, f1⟩, ⟨_, m0, m1, n0, n1⟩⟩ := hM.out; obtain ⟨_, z0, z1, _, _⟩ := hT.out) | (go_at_call 11; (with_reducible refine (HSF.out _ (HP0.out _ hM.out.below)).mono ?_); rintro e w4 ⟨rfl, hb⟩; have hM := Lib.hid (hM.out.to hb); obtain ⟨_, ⟨_, t0, t1, t2⟩, hg1, hg2, ⟨_, k0, k1, f0, f1⟩, ⟨_, m0, m1, n0, n1⟩⟩ := hM.out; have hM := Lib.hid (hM.out.setu (spF x.ops.length plan).1 (spF x.ops.length plan).2); clear hb) | (go_at_call 14; (with_reducible refine (HVO.out _ (HL0.out _ hM.out.below)).mono ?_); rintro e w7 ⟨rfl, rfl⟩) | (go_at_call 16; refine (in_any _ _ _ _).mono ?_; rintro e w' ⟨rfl, rfl⟩) | (go_at_call 17; (with_reducible refine (HNN.out _ (HX0.out _ hM.out.below) (HL0.out _ hM.out.below)).mono ?_); rintro e w9 ⟨aN, cN, rfl, hl, _, hb⟩; have HLN := Lib.hid (fun (V : World) (h : Below w9.heap.size w9 V) => hl.to h h.size); have hM := Lib.hid (hM.out.to hb); have hBn := Lib.hid (Below.refl w9.heap.size w9); clear hl hb; obtain ⟨_, ⟨_, t0, t1, t2⟩, hg1, hg2, ⟨_, k0, k1, f0, f1⟩, ⟨_, m0, m1, n0, n1⟩⟩ := hM.out) | (go_at_call 18; (with_reducible refine (HNA.out _ (HX0.out _ hM.out.below) (HL0.out _ hM.out.below)).mono ?_); rintro e wA ⟨vA, rfl, ho, hb⟩; have hM := Lib.hid ((hM.out.to hb).to (al_b wA (.cells #[.int .i64 0, .int .i64 0] 28))); have hT := Lib.hid (two_new wA (.int .i64 0) (.int .i64 0) 28); have HOA := Lib.hid (own_to ho (al_b wA (.cells #[.int .i64 0, .int .i64 0] 28))); have hBn := Lib.hid (hBn.out.trans ((hb.trans ((al_b wA (.cells #[.int .i64 0, .int .i64 0] 28)).mono hb.size)).mono hBn.out.size)); clear hb ho; obtain ⟨_, ⟨_, t0, t1, t2⟩, hg1, hg2, ⟨_, k0, k1, f0, f1⟩, ⟨_, m0, m1, n0, n1⟩⟩ := hM.out; obtain ⟨_, z0, z1, _, _⟩ := hT.out) | (go_at_call 19; (with_reducible refine (in_own HOA.out (HLN.out _ hBn.out)).mono ?_); rintro e wI ⟨rfl, hb⟩; have hM := Lib.hid (hM.out.to hb); clear hb))
    go_ret
    exact ⟨rfl, hM.out.below⟩
theorem nmspec_any (hNv : NvC) (hNa : NaC) (hNs : NsC) (hNb : NbC) (x : NT) (a2 : Option Addr) (c2 : Nat) (v : List Int) (op : Int) (a3 : Option Addr) (c3 : Nat) (plan : List Int) (w : World) (hX : NTIn w w.heap.size x) (hL : Lst w w.heap.size a2 c2 v) (hz2 : a2 = none → c2 = 0) (hP : Lst w w.heap.size a3 c3 plan) :
    Calls Try.prog 3 #[.agg #[.slice x.ai x.init.length x.ci, .slice x.ag x.goal.length x.cg, .slice x.ao x.ops.length x.co], .slice a2 v.length c2, .int .i64 op, .slice a3 plan.length c3] w fun e w' => e = .returned (.bool true) ∧ Below w.heap.size w w' := by
  by_cases h0 : (nfF x).1 = 0
  case neg => exact mspec_bad hNv hNa hNs hNb x a2 c2 v op a3 c3 plan w hX hL hz2 hP h0
  cases hok : okL 1000000 x.init.length v
  · by_cases hsp : (spF x.ops.length plan).1 = 0
    · exact mspec_zB hNv hNa hNs hNb x a2 c2 v op a3 c3 plan w hX hL hz2 hP h0 hsp hok
    · exact mspec_nB hNv hNa hNs hNb x a2 c2 v op a3 c3 plan w hX hL hz2 hP h0 hsp hok
  cases hin : inB op 0 ((x.ops.length : Int) - 1)
  · by_cases hsp : (spF x.ops.length plan).1 = 0
    · exact mspec_zC hNv hNa hNs hNb x a2 c2 v op a3 c3 plan w hX hL hz2 hP h0 hsp hok hin
    · exact mspec_nC hNv hNa hNs hNb x a2 c2 v op a3 c3 plan w hX hL hz2 hP h0 hsp hok hin
  obtain ⟨g0, g1⟩ := inB_iff.1 hin
  obtain ⟨m, rfl⟩ := Int.eq_ofNat_of_zero_le g0
  have hm : m < x.ops.length := by omega
  by_cases hnf : (naf (nop x.ops m) v).2 = 0
  · by_cases hsp : (spF x.ops.length plan).1 = 0
    · exact mspec_zE hNv hNa hNs hNb x a2 c2 v m a3 c3 plan w hX hL hz2 hP h0 hsp hok hm hnf
    · exact mspec_nE hNv hNa hNs hNb x a2 c2 v m a3 c3 plan w hX hL hz2 hP h0 hsp hok hm hnf
  · by_cases hsp : (spF x.ops.length plan).1 = 0
    · exact mspec_zD hNv hNa hNs hNb x a2 c2 v m a3 c3 plan w hX hL hz2 hP h0 hsp hok hm hnf
    · exact mspec_nD hNv hNa hNs hNb x a2 c2 v m a3 c3 plan w hX hL hz2 hP h0 hsp hok hm hnf
end Go.Proofs.Ytiafplmaigpmeaa
