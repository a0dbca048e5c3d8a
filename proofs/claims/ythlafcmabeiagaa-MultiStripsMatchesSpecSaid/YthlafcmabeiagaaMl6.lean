/- The law MultiStripsMatchesSpec: the walk, first half. -/
import Derived.Test.YthlafcmabeiagaaMas
import Derived.Test.YthlafcmabeiagaaMl1
namespace Go.Proofs.Ythlafcmabeiagaa
open Go.RowKit
set_option linter.unusedSimpArgs false
set_option linter.unusedVariables false
set_option maxRecDepth 100000

/-- The law's faults besides its tasks. -/
structure SW (w W : World) (x : MT) (y : Tsk) (gy g gf : Nat) (u v p q : Int) : Prop where
  sm : SM w W x y gy
  tw : Two W g (.int .i64 u) (.int .i64 v)
  tf : Two W gf (.int .i64 p) (.int .i64 q)
theorem SW.to {w W W' : World} {x : MT} {y : Tsk} {gy g gf : Nat} {u v p q : Int} (h : SW w W x y gy g gf u v p q) (hb : Below W.heap.size W W') : SW w W' x y gy g gf u v p q := ⟨h.sm.to hb, two_to h.tw hb, two_to h.tf hb⟩
theorem sw_new {w W : World} {x : MT} {y : Tsk} {g : Nat} {u v : Int} (p q : Int) (hN : WM w W x g u v) (hy : TskIn W W.heap.size y) : SW w ((W.alloc (.cells #[.int .i64 y.n, .slice y.ai y.init.length y.ci, .slice y.ag y.goal.length y.cg, .slice y.ao y.ops.length y.co] 50)).alloc (.cells #[.int .i64 p, .int .i64 q] 28)) x y W.heap.size g (W.heap.size + 1) u v p q := by
  have h1 := sm_new hN.below hN.box hy
  have z := two_new (W.alloc (.cells #[.int .i64 y.n, .slice y.ai y.init.length y.ci, .slice y.ag y.goal.length y.cg, .slice y.ao y.ops.length y.co] 50)) (.int .i64 p) (.int .i64 q) 28
  rw [World.size_alloc] at z
  exact ⟨h1.to (al_b _ _), two_to (two_to hN.two (al_b _ _)) (al_b _ _), z⟩
theorem strips_bad {x : MT} {w : World} (hX : MTIn w w.heap.size x) (hr : (msF x).1 ≠ 0) : Calls Try.prog 22 #[.agg #[.slice x.az x.sizes.length x.cz, .slice x.ai x.init.length x.ci, .slice x.ag x.goal.length x.cg, .slice x.ao x.ops.length x.co]] w fun e w' => e = .returned (.tuple #[.agg #[.int .i64 tkZ.n, .slice tkZ.ai tkZ.init.length tkZ.ci, .slice tkZ.ag tkZ.goal.length tkZ.cg, .slice tkZ.ao tkZ.ops.length tkZ.co], faultV (msF x)]) ∧ TskIn w' w'.heap.size tkZ ∧ Below w.heap.size w w' :=
  (strips_any x w hX).mono fun e w' ⟨y, he, hy, hb, _, hz⟩ => by
    obtain rfl := hz hr
    exact ⟨he, hy, hb⟩
set_option maxHeartbeats 8000000 in
theorem ss_fault (x : MT) (w : World) (hX : MTIn w w.heap.size x) (hr : (mfF x).1 ≠ 0) :
    Calls Try.prog 6 #[.agg #[.slice x.az x.sizes.length x.cz, .slice x.ai x.init.length x.ci, .slice x.ag x.goal.length x.cg, .slice x.ao x.ops.length x.co]] w fun e w' => e = .returned (.bool true) ∧ Below w.heap.size w w' := by
  have HB0 := Lib.hid (al_b w (.cells #[.slice x.az x.sizes.length x.cz, .slice x.ai x.init.length x.ci, .slice x.ag x.goal.length x.cg, .slice x.ao x.ops.length x.co] 26))
  have HBX := Lib.hid (mbox_new w x 26)
  have HNF := Lib.hid (multiFault_any x _ (hX.to HB0.out HB0.out.size))
  have hms : msF x = mfF x := by unfold msF; rw [if_pos hr]
  have HST := Lib.hid (fun (W : World) (h : Below w.heap.size w W) => strips_bad (hX.to h h.size) (by rw [hms]; exact hr))
  have hne : ((mfF x).1 == 0) = false := by simpa using hr
  have hne2 : ((mfF x).1 != 0) = true := by simpa using hr
  rw [hms] at HST
  have hls := hX.sizes.len
  unfold maxLen at hls
  clear hX hr
  go_enter Try.func6, Try.ntmps6
  go_wp2_with (go_at_call 7; (with_reducible refine HNF.out.mono ?_); rintro e wF ⟨rfl, hb⟩; have hN := Lib.hid (wm_new (HB0.out.trans (hb.mono HB0.out.size)) (HBX.out.to hb HBX.out.lt) (mfF x).1 (mfF x).2); clear hb; obtain ⟨_, ⟨_, t0, t1, t2, t3⟩, _, ⟨_, k0, k1, f0, f1⟩⟩ := hN.out)
  generalize wF.heap.size = g at *
  go_loopw [4, 5] (fun v i wr => v = .int .i64 0 ∧ i = .int .i64 0 ∧ WM w wr x g (mfF x).1 (mfF x).2) (fun _ _ _ => 0)
  case atStart => exact ⟨rfl, rfl, hN.out⟩
  case round =>
    clear t0 t1 t2 t3 k0 k1 f0 f1 hN
    obtain ⟨rfl, rfl, hm⟩ := hrel
    have hN := Lib.hid hm
    clear hm
    obtain ⟨_, ⟨_, t0, t1, t2, t3⟩, _, ⟨_, k0, k1, f0, f1⟩⟩ := hN.out
    go_wp2_with (first | (go_at_call 22; (with_reducible refine (HST.out _ hN.out.below).mono ?_); rintro e wS ⟨rfl, hy, hb⟩; have hW := Lib.hid (sw_new (y := tkZ) (mfF x).1 (mfF x).2 (hN.out.to hb) hy); clear hy hb; obtain ⟨⟨_, ⟨_, t0, t1, t2, t3⟩, ⟨_, s0, s1, s2, s3, _⟩, _⟩, ⟨_, k0, k1, f0, f1⟩, ⟨_, l0, l1, _, _⟩⟩ := hW.out) | (go_at_call 8; (with_reducible refine (turns_any _).mono ?_); rintro e wT ⟨rfl, hb⟩; have hW := Lib.hid (hW.out.to hb); clear hb; obtain ⟨⟨_, ⟨_, t0, t1, t2, t3⟩, ⟨_, s0, s1, s2, s3, _⟩, _⟩, ⟨_, k0, k1, f0, f1⟩, ⟨_, l0, l1, _, _⟩⟩ := hW.out))
    all_goals
      go_ret
      exact ⟨rfl, hW.out.sm.below⟩
set_option maxHeartbeats 8000000 in
theorem ss_large (x : MT) (w : World) (hX : MTIn w w.heap.size x) (h0 : (mfF x).1 = 0) (h24 : 24 < smN x.sizes x.sizes.length) :
    Calls Try.prog 6 #[.agg #[.slice x.az x.sizes.length x.cz, .slice x.ai x.init.length x.ci, .slice x.ag x.goal.length x.cg, .slice x.ao x.ops.length x.co]] w fun e w' => e = .returned (.bool true) ∧ Below w.heap.size w w' := by
  have HB0 := Lib.hid (al_b w (.cells #[.slice x.az x.sizes.length x.cz, .slice x.ai x.init.length x.ci, .slice x.ag x.goal.length x.cg, .slice x.ao x.ops.length x.co] 26))
  have HBX := Lib.hid (mbox_new w x 26)
  have HNF := Lib.hid (multiFault_any x _ (hX.to HB0.out HB0.out.size))
  obtain ⟨hv, hz⟩ := mf_val h0
  have hms : msF x = (10, -8) := by unfold msF; rw [if_neg (by simp [h0]), if_pos h24]
  have HST := Lib.hid (fun (W : World) (h : Below w.heap.size w W) => strips_bad (hX.to h h.size) (by rw [hms]; simp))
  rw [hms] at HST
  rw [hz] at HNF
  have hd : decide (24 < smN x.sizes x.sizes.length) = true := decide_eq_true h24
  have HSZ := Lib.hid (fun (W : World) (h : Below w.heap.size w W) => hX.sizes.to h h.size)
  have HV := Lib.hid hv.sz
  have h8 := hv.sz.n8
  clear hX h0 hv hz h24 hms
  go_enter Try.func6, Try.ntmps6
  go_wp2_with (go_at_call 7; (with_reducible refine HNF.out.mono ?_); rintro e wF ⟨rfl, hb⟩; have hN := Lib.hid (wm_new (HB0.out.trans (hb.mono HB0.out.size)) (HBX.out.to hb HBX.out.lt) 0 0); clear hb; obtain ⟨_, ⟨_, t0, t1, t2, t3⟩, _, ⟨_, k0, k1, f0, f1⟩⟩ := hN.out)
  generalize wF.heap.size = g at *
  go_loopw [4, 5] (fun v i wr => ∃ k : Nat, k ≤ x.sizes.length ∧ i = .int .i64 k ∧ v = .int .i64 (smN x.sizes k) ∧ WM w wr x g 0 0) (fun _ i _ => x.sizes.length - (intOf i).toNat)
  case atStart => exact ⟨0, by omega, rfl, rfl, hN.out⟩
  case round =>
    clear t0 t1 t2 t3 k0 k1 f0 f1 hN
    obtain ⟨k, hk, rfl, rfl, hm⟩ := hrel
    have hN := Lib.hid hm
    clear hm
    obtain ⟨_, ⟨_, t0, t1, t2, t3⟩, _, ⟨_, k0, k1, f0, f1⟩⟩ := hN.out
    by_cases hlt : k < x.sizes.length
    case pos =>
      obtain ⟨b, o, haz, _, hc⟩ := (HSZ.out _ hN.out.below).nums.at_ hlt
      rw [haz] at t0
      have h1 := smN_le HV.out (k + 1) (by omega)
      have hst : smN x.sizes (k + 1) = smN x.sizes k + ix x.sizes k := rfl
      rw [hst] at h1
      have hw1 : IntKind.i64.wrap (smN x.sizes k + ix x.sizes k) = smN x.sizes k + ix x.sizes k := IntWalk.i64_in _ (by omega)
      have HAZ := Lib.hid haz
      have HST2 := Lib.hid hst
      clear haz h1 hst
      go_wp2
      go_roundw
      case rel => exact ⟨k + 1, by omega, by go_num, by rw [HST2.out], hN.out⟩
      case measure => simp [intOf]; omega
    case neg =>
      obtain rfl : k = x.sizes.length := by omega
      have hge : ¬ ((x.sizes.length : Int) < x.sizes.length) := by omega
      go_wp2_with (first | (go_at_call 11; refine (at_any _ _ _).mono ?_; rintro e w3 ⟨rfl, hb3⟩; have hN := Lib.hid (hN.out.to hb3); clear hb3; obtain ⟨_, ⟨_, t0, t1, t2, t3⟩, _, ⟨_, k0, k1, f0, f1⟩⟩ := hN.out) | (go_at_call 22; have hN := Lib.hid (hN.out.set 10 (-8)); (with_reducible refine (HST.out _ hN.out.below).mono ?_); rintro e wS ⟨rfl, hy, hb⟩; have hW := Lib.hid (sw_new (y := tkZ) 10 (-8) (hN.out.to hb) hy); clear hy hb; obtain ⟨⟨_, ⟨_, t0, t1, t2, t3⟩, ⟨_, s0, s1, s2, s3, _⟩, _⟩, ⟨_, k0, k1, f0, f1⟩, ⟨_, l0, l1, _, _⟩⟩ := hW.out) | (go_at_call 8; (with_reducible refine (turns_any _).mono ?_); rintro e wT ⟨rfl, hb⟩; have hW := Lib.hid (hW.out.to hb); clear hb; obtain ⟨⟨_, ⟨_, t0, t1, t2, t3⟩, ⟨_, s0, s1, s2, s3, _⟩, _⟩, ⟨_, k0, k1, f0, f1⟩, ⟨_, l0, l1, _, _⟩⟩ := hW.out))
      go_ret
      exact ⟨rfl, hW.out.sm.below⟩
end Go.Proofs.Ythlafcmabeiagaa
