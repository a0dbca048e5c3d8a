/- MultiFault of the reference. -/
import Derived.Test.YthlafcmabeiagaaMlf
namespace Go.Proofs.Ythlafcmabeiagaa
open Go.RowKit
set_option linter.unusedSimpArgs false
set_option linter.unusedVariables false
set_option maxRecDepth 100000

/-- What a call with a task has laid: its box and a fault. -/
structure FrM (w W : World) (x : MT) (u v : Int) : Prop where
  below : Below w.heap.size w W
  box : MBox W w.heap.size x
  two : Two W (w.heap.size + 1) (.int .i64 u) (.int .i64 v)
theorem FrM.to {w W W' : World} {x : MT} {u v : Int} (h : FrM w W x u v) (hb : Below W.heap.size W W') : FrM w W' x u v :=
  ⟨h.below.trans (hb.mono h.below.size), h.box.to hb h.box.lt, two_to h.two hb⟩
theorem frM_new (w : World) (x : MT) (t t' : TypeId) : FrM w ((w.alloc (.cells #[.slice x.az x.sizes.length x.cz, .slice x.ai x.init.length x.ci, .slice x.ag x.goal.length x.cg, .slice x.ao x.ops.length x.co] t)).alloc (.cells #[.int .i64 0, .int .i64 0] t')) x 0 0 := by
  refine ⟨by go_grown, (mbox_new w x t).to ((Below.refl _ _).alloc (Nat.le_refl _) _) (by simp), ?_⟩
  have := two_new (w.alloc (.cells #[.slice x.az x.sizes.length x.cz, .slice x.ai x.init.length x.ci, .slice x.ag x.goal.length x.cg, .slice x.ao x.ops.length x.co] t)) (.int .i64 0) (.int .i64 0) t'
  simpa using this
/-- A box with three cells. -/
structure Tri (w : World) (g : Nat) (u v y : Value) : Prop where
  lt : g < w.heap.size
  c0 : w.cell? ⟨g, 0, none⟩ = some u
  c1 : w.cell? ⟨g, 1, none⟩ = some v
  c2 : w.cell? ⟨g, 2, none⟩ = some y
theorem Tri.to {w w' : World} {g : Nat} {u v y : Value} (h : Tri w g u v y) (hb : Below w.heap.size w w') : Tri w' g u v y :=
  ⟨Nat.lt_of_lt_of_le h.lt hb.size, (hb.cell (p := ⟨g, 0, none⟩) h.lt).trans h.c0, (hb.cell (p := ⟨g, 1, none⟩) h.lt).trans h.c1, (hb.cell (p := ⟨g, 2, none⟩) h.lt).trans h.c2⟩
theorem tri_new (w : World) (u v y : Value) (t : TypeId) : Tri (w.alloc (.cells #[u, v, y] t)) w.heap.size u v y := ⟨by simp, by simp, by simp, by simp⟩

theorem szB_good {S : List Int} (h : ∀ j, j < S.length → inB (ix S j) 1 6 = true) : szB S = true := allB_iff.2 h
theorem szB_bad {S : List Int} {k : Nat} (hk : k < S.length) (h : inB (ix S k) 1 6 = false) : szB S = false := allB_bad hk h
theorem szB_ok {S : List Int} (h18 : 1 ≤ S.length ∧ S.length ≤ 8) (h : szB S = true) : SzOk S := ⟨h18.1, h18.2, fun k hk => inB_iff.1 (allB_iff.1 h k hk)⟩
set_option maxHeartbeats 4000000 in
theorem multiFault_any (x : MT) (w : World) (hX : MTIn w w.heap.size x) :
    Calls Try.prog 7 #[.agg #[.slice x.az x.sizes.length x.cz, .slice x.ai x.init.length x.ci, .slice x.ag x.goal.length x.cg, .slice x.ao x.ops.length x.co]] w fun e w' => e = .returned (faultV (mfF x)) ∧ Below w.heap.size w w' := by
  have hns := hX.sizes.len
  have hno := Nat.le_trans hX.ops.le hX.ops.max
  unfold maxLen at hns hno
  have hF := Lib.hid (frM_new w x 26 28)
  have HX0 := Lib.hid (fun (W : World) (h : Below w.heap.size w W) => hX.to h h.size)
  clear hX
  by_cases h18 : 1 ≤ x.sizes.length ∧ x.sizes.length ≤ 8
  case neg =>
    have H := Lib.hid (show mfF x = (2, -1) by unfold mfF; rw [if_pos h18])
    have hi : inB (x.sizes.length : Int) 1 8 = false := inB_no (fun h => h18 (by omega))
    clear h18
    go_enter Try.func7, Try.ntmps7
    go_wp2_with (first | (go_at_call 15; refine (in_any _ _ _ _).mono ?_; rintro e w' ⟨rfl, rfl⟩) | (go_at_call 11; refine (at_any _ _ _).mono ?_; rintro e w3 ⟨rfl, hb3⟩; have hF := Lib.hid (hF.out.to hb3); clear hb3; obtain ⟨_, ⟨_, t0, t1, t2, t3⟩, ⟨_, k0, k1, f0, f1⟩⟩ := hF.out))
    refine post_fault (g := w.heap.size + 1) (x := .int .i64 2) (y := .int .i64 (-1)) Try.results7 rfl (hF.out.two.set _ _) ?_
    exact ⟨ret_val (by rw [H.out]), (hF.out.below.setCell (by simp) _).setCell (by simp) _⟩
  have hi1 : inB (x.sizes.length : Int) 1 8 = true := inB_iff.2 (by omega)
  go_enter Try.func7, Try.ntmps7
  go_wp2_with (go_at_call 15; refine (in_any _ _ _ _).mono ?_; rintro e w' ⟨rfl, rfl⟩)
  go_loopw [3] (fun i wr => ∃ k : Nat, k ≤ x.sizes.length ∧ i = .int .i64 k ∧ (∀ j, j < k → inB (ix x.sizes j) 1 6 = true) ∧ FrM w wr x 0 0) (fun i _ => x.sizes.length - (intOf i).toNat)
  case atStart => exact ⟨0, by omega, rfl, by omega, hF.out⟩
  case round =>
    clear hF
    obtain ⟨k, hk, rfl, hj, hf⟩ := hrel
    have HJ := Lib.hid hj
    have hF := Lib.hid hf
    clear hj hf
    obtain ⟨_, ⟨_, t0, t1, t2, t3⟩, ⟨_, k0, k1, f0, f1⟩⟩ := hF.out
    by_cases hlt : k < x.sizes.length
    case pos =>
      obtain ⟨b, o, hz2, _, hc⟩ := (HX0.out _ hF.out.below).sizes.nums.at_ hlt
      rw [hz2] at t0
      have HZ2 := Lib.hid hz2
      clear hz2
      cases hi : inB (ix x.sizes k) 1 6
      · have HB := Lib.hid (szB_bad hlt hi)
        have H := Lib.hid (show mfF x = (3, -1) by unfold mfF; rw [if_neg (by omega), if_pos HB.out])
        clear h18
        go_wp2_with (first | (go_at_call 15; refine (in_any _ _ _ _).mono ?_; rintro e w' ⟨rfl, rfl⟩) | (go_at_call 11; refine (at_any _ _ _).mono ?_; rintro e w3 ⟨rfl, hb3⟩; have hF := Lib.hid (hF.out.to hb3); clear hb3; obtain ⟨_, ⟨_, t0, t1, t2, t3⟩, ⟨_, k0, k1, f0, f1⟩⟩ := hF.out))
        refine post_fault (g := w.heap.size + 1) (x := .int .i64 3) (y := .int .i64 (-1)) Try.results7 rfl (hF.out.two.set _ _) ?_
        exact ⟨ret_val (by rw [H.out]), (hF.out.below.setCell (by simp) _).setCell (by simp) _⟩
      · have HI := Lib.hid hi
        go_wp2_with (go_at_call 15; refine (in_any _ _ _ _).mono ?_; rintro e w' ⟨rfl, rfl⟩)
        go_roundw
        case rel => exact ⟨k + 1, by omega, by go_num, all_step HJ.out HI.out, hF.out⟩
        case measure => simp [intOf]; omega
    have hge : ¬ ((k : Int) < x.sizes.length) := by omega
    have hzB := szB_good (S := x.sizes) (fun j hj => HJ.out j (by omega))
    have hz := szB_ok h18 hzB
    have HMS := Lib.hid (fun (W : World) (h : Below w.heap.size w W) => mstate_any x hz x.ai x.ci x.init W (HX0.out W h).sizes (HX0.out W h).init)
    have HAG := Lib.hid (fun (W : World) (h : Below w.heap.size w W) => assigns_any x hz x.ag x.cg x.goal W (HX0.out W h).sizes (HX0.out W h).goal)
    have HZ := Lib.hid hz
    clear hz
    cases hm : msB x.sizes x.init
    · have H := Lib.hid (show mfF x = (5, -2) by unfold mfF; rw [if_neg (by omega), if_neg (by simp [hzB]), if_pos hm])
      rw [hm] at HMS
      clear h18 hzB
      go_wp2_with (first | (go_at_call 10; (with_reducible refine (HMS.out _ hF.out.below).mono ?_); rintro e w5 ⟨rfl, hb⟩; have hF := Lib.hid (hF.out.to hb); clear hb; obtain ⟨_, ⟨_, t0, t1, t2, t3⟩, ⟨_, k0, k1, f0, f1⟩⟩ := hF.out) | (go_at_call 11; refine (at_any _ _ _).mono ?_; rintro e w3 ⟨rfl, hb3⟩; have hF := Lib.hid (hF.out.to hb3); clear hb3; obtain ⟨_, ⟨_, t0, t1, t2, t3⟩, ⟨_, k0, k1, f0, f1⟩⟩ := hF.out))
      refine post_fault (g := w.heap.size + 1) (x := .int .i64 5) (y := .int .i64 (-2)) Try.results7 rfl (hF.out.two.set _ _) ?_
      exact ⟨ret_val (by rw [H.out]), (hF.out.below.setCell (by simp) _).setCell (by simp) _⟩
    rw [hm] at HMS
    cases hg : asB x.sizes x.goal
    · have H := Lib.hid (show mfF x = (5, -3) by unfold mfF; rw [if_neg (by omega), if_neg (by simp [hzB]), if_neg (by simp [hm]), if_pos hg])
      rw [hg] at HAG
      clear h18 hzB
      go_wp2_with (first | (go_at_call 10; (with_reducible refine (HMS.out _ hF.out.below).mono ?_); rintro e w5 ⟨rfl, hb⟩; have hF := Lib.hid (hF.out.to hb); clear hb; obtain ⟨_, ⟨_, t0, t1, t2, t3⟩, ⟨_, k0, k1, f0, f1⟩⟩ := hF.out) | (go_at_call 29; (with_reducible refine (HAG.out _ hF.out.below).mono ?_); rintro e w6 ⟨rfl, hb⟩; have hF := Lib.hid (hF.out.to hb); clear hb; obtain ⟨_, ⟨_, t0, t1, t2, t3⟩, ⟨_, k0, k1, f0, f1⟩⟩ := hF.out) | (go_at_call 11; refine (at_any _ _ _).mono ?_; rintro e w3 ⟨rfl, hb3⟩; have hF := Lib.hid (hF.out.to hb3); clear hb3; obtain ⟨_, ⟨_, t0, t1, t2, t3⟩, ⟨_, k0, k1, f0, f1⟩⟩ := hF.out))
      refine post_fault (g := w.heap.size + 1) (x := .int .i64 5) (y := .int .i64 (-3)) Try.results7 rfl (hF.out.two.set _ _) ?_
      exact ⟨ret_val (by rw [H.out]), (hF.out.below.setCell (by simp) _).setCell (by simp) _⟩
    rw [hg] at HAG
    by_cases h40 : 40 < x.ops.length
    case pos =>
      have H := Lib.hid (show mfF x = (2, -1) by unfold mfF; rw [if_neg (by omega), if_neg (by simp [hzB]), if_neg (by simp [hm]), if_neg (by simp [hg]), if_pos h40])
      have hd : decide ((40 : Int) < (x.ops.length : Int)) = true := by simp; omega
      clear h18 hzB
      go_wp2_with (first | (go_at_call 10; (with_reducible refine (HMS.out _ hF.out.below).mono ?_); rintro e w5 ⟨rfl, hb⟩; have hF := Lib.hid (hF.out.to hb); clear hb; obtain ⟨_, ⟨_, t0, t1, t2, t3⟩, ⟨_, k0, k1, f0, f1⟩⟩ := hF.out) | (go_at_call 29; (with_reducible refine (HAG.out _ hF.out.below).mono ?_); rintro e w6 ⟨rfl, hb⟩; have hF := Lib.hid (hF.out.to hb); clear hb; obtain ⟨_, ⟨_, t0, t1, t2, t3⟩, ⟨_, k0, k1, f0, f1⟩⟩ := hF.out) | (go_at_call 11; refine (at_any _ _ _).mono ?_; rintro e w3 ⟨rfl, hb3⟩; have hF := Lib.hid (hF.out.to hb3); clear hb3; obtain ⟨_, ⟨_, t0, t1, t2, t3⟩, ⟨_, k0, k1, f0, f1⟩⟩ := hF.out))
      refine post_fault (g := w.heap.size + 1) (x := .int .i64 2) (y := .int .i64 (-1)) Try.results7 rfl (hF.out.two.set _ _) ?_
      exact ⟨ret_val (by rw [H.out]), (hF.out.below.setCell (by simp) _).setCell (by simp) _⟩
    have hd : decide ((40 : Int) < (x.ops.length : Int)) = false := by simp; omega
    have HG := Lib.hid (fun h0 => mf_good h18.1 h18.2 hzB hm hg (by omega) h0)
    have HBD := Lib.hid (fun (k : Nat) hk h0 h => mf_bad (k := k) h18.1 h18.2 hzB hm hg (by omega) hk h0 h)
    clear h18 hzB hm hg
    go_wp2_with (first | (go_at_call 10; (with_reducible refine (HMS.out _ hF.out.below).mono ?_); rintro e w5 ⟨rfl, hb⟩; have hF := Lib.hid (hF.out.to hb); clear hb; obtain ⟨_, ⟨_, t0, t1, t2, t3⟩, ⟨_, k0, k1, f0, f1⟩⟩ := hF.out) | (go_at_call 29; (with_reducible refine (HAG.out _ hF.out.below).mono ?_); rintro e w6 ⟨rfl, hb⟩; have hF := Lib.hid (hF.out.to hb); clear hb; obtain ⟨_, ⟨_, t0, t1, t2, t3⟩, ⟨_, k0, k1, f0, f1⟩⟩ := hF.out))
    go_loopw [4] (fun i wr => ∃ k : Nat, k ≤ x.ops.length ∧ i = .int .i64 k ∧ (∀ j, j < k → mcode x.sizes (mop x.ops j) = 0) ∧ FrM w wr x 0 0) (fun i _ => x.ops.length - (intOf i).toNat)
    case atStart => exact ⟨0, by omega, rfl, fun j h => by omega, hF.out⟩
    case round =>
      clear t0 t1 t2 t3 k0 k1 f0 f1
      clear hF
      obtain ⟨k, hk, rfl, hj, hf⟩ := hrel
      have HJ := Lib.hid hj
      have hF := Lib.hid hf
      clear hj hf
      obtain ⟨_, ⟨_, t0, t1, t2, t3⟩, ⟨_, k0, k1, f0, f1⟩⟩ := hF.out
      by_cases hlt : k < x.ops.length
      case neg =>
        have H := Lib.hid (HG.out (fun j hj => HJ.out j (by omega)))
        have hge : ¬ ((k : Int) < x.ops.length) := by omega
        go_wp2
        refine post_fault (g := w.heap.size + 1) (x := .int .i64 0) (y := .int .i64 0) Try.results7 rfl (hF.out.two.set _ _) ?_
        exact ⟨ret_val (by rw [H.out]), (hF.out.below.setCell (by simp) _).setCell (by simp) _⟩
      obtain ⟨b, p, a1, a2, c1, c2, hao, hbl, ⟨q0, q1, q2⟩, hpre, hpost⟩ := (HX0.out _ hF.out.below).ops.at_ hlt
      rw [hao] at t3
      have HAO := Lib.hid hao
      clear hao
      have hlo : mop x.ops k = mop x.ops k := rfl
      generalize hO' : mop x.ops k = o at *
      have HO' := Lib.hid hO'
      clear hO' hlo
      have hal := al_b wr (.cells #[.slice a1 o.pre.length c1, .slice a2 o.post.length c2, .int .i64 o.cost] 35)
      have hF := Lib.hid (hF.out.to hal)
      have HP1 := Lib.hid (fun (W : World) (h : Below w.heap.size w W) (h2 : Below wr.heap.size wr W) => assigns_any x HZ.out a1 c1 o.pre W (HX0.out W h).sizes (hpre.to h2 h2.size))
      have HP2 := Lib.hid (fun (W : World) (h : Below w.heap.size w W) (h2 : Below wr.heap.size wr W) => assigns_any x HZ.out a2 c2 o.post W (HX0.out W h).sizes (hpost.to h2 h2.size))
      have hO := Lib.hid (tri_new wr (.slice a1 o.pre.length c1) (.slice a2 o.post.length c2) (.int .i64 o.cost) 35)
      have hQ := Lib.hid hal
      rw [HAO.out] at HP1
      clear hpre hpost hal
      have hmc : mcode x.sizes o = if asB x.sizes o.pre && asB x.sizes o.post then (if inB o.cost 0 100 then 0 else 3) else 5 := rfl
      cases h1 : asB x.sizes o.pre
      · rw [h1] at hmc HP1
        have H := Lib.hid (show mfF x = (5, (k : Int)) by rw [HBD.out k hlt HJ.out (by rw [HO'.out, hmc]; simp), HO'.out, hmc]; rfl)
        clear hmc h1
        go_wp2_with (first | (go_at_call 29; (with_reducible refine (HP1.out _ hF.out.below hQ.out).mono ?_); rintro e w6 ⟨rfl, hb⟩; have hQ := Lib.hid (hQ.out.trans (hb.mono hQ.out.size)); have hF := Lib.hid (hF.out.to hb); have hO := Lib.hid (hO.out.to hb); clear hb; obtain ⟨_, ⟨_, t0, t1, t2, t3⟩, ⟨_, k0, k1, f0, f1⟩⟩ := hF.out; obtain ⟨_, z0, z1, z2⟩ := hO.out) | (go_at_call 11; refine (at_any _ _ _).mono ?_; rintro e w3 ⟨rfl, hb3⟩; have hF := Lib.hid (hF.out.to hb3); clear hb3; obtain ⟨_, ⟨_, t0, t1, t2, t3⟩, ⟨_, k0, k1, f0, f1⟩⟩ := hF.out))
        refine post_fault (g := w.heap.size + 1) (x := .int .i64 5) (y := .int .i64 k) Try.results7 rfl (hF.out.two.set _ _) ?_
        exact ⟨ret_val (by rw [H.out]), (hF.out.below.setCell (by simp) _).setCell (by simp) _⟩
      rw [h1] at hmc HP1
      cases h2 : asB x.sizes o.post
      · rw [h2] at hmc HP2
        have H := Lib.hid (show mfF x = (5, (k : Int)) by rw [HBD.out k hlt HJ.out (by rw [HO'.out, hmc]; simp), HO'.out, hmc]; rfl)
        clear hmc h1 h2
        go_wp2_with (first | (go_at_call 29; (with_reducible refine (HP1.out _ hF.out.below hQ.out).mono ?_); rintro e w6 ⟨rfl, hb⟩; have hQ := Lib.hid (hQ.out.trans (hb.mono hQ.out.size)); have hF := Lib.hid (hF.out.to hb); have hO := Lib.hid (hO.out.to hb); clear hb; obtain ⟨_, ⟨_, t0, t1, t2, t3⟩, ⟨_, k0, k1, f0, f1⟩⟩ := hF.out; obtain ⟨_, z0, z1, z2⟩ := hO.out) | (go_at_call 29; (with_reducible refine (HP2.out _ hF.out.below hQ.out).mono ?_); rintro e w7 ⟨rfl, hb⟩; have hF := Lib.hid (hF.out.to hb); have hO := Lib.hid (hO.out.to hb); clear hb; obtain ⟨_, ⟨_, t0, t1, t2, t3⟩, ⟨_, k0, k1, f0, f1⟩⟩ := hF.out; obtain ⟨_, z0, z1, z2⟩ := hO.out) | (go_at_call 11; refine (at_any _ _ _).mono ?_; rintro e w3 ⟨rfl, hb3⟩; have hF := Lib.hid (hF.out.to hb3); clear hb3; obtain ⟨_, ⟨_, t0, t1, t2, t3⟩, ⟨_, k0, k1, f0, f1⟩⟩ := hF.out))
        refine post_fault (g := w.heap.size + 1) (x := .int .i64 5) (y := .int .i64 k) Try.results7 rfl (hF.out.two.set _ _) ?_
        exact ⟨ret_val (by rw [H.out]), (hF.out.below.setCell (by simp) _).setCell (by simp) _⟩
      rw [h2] at hmc HP2
      cases h3 : inB o.cost 0 100
      · rw [h3] at hmc
        have H := Lib.hid (show mfF x = (3, (k : Int)) by rw [HBD.out k hlt HJ.out (by rw [HO'.out, hmc]; simp), HO'.out, hmc]; rfl)
        clear hmc h1 h2
        go_wp2_with (first | (go_at_call 29; (with_reducible refine (HP1.out _ hF.out.below hQ.out).mono ?_); rintro e w6 ⟨rfl, hb⟩; have hQ := Lib.hid (hQ.out.trans (hb.mono hQ.out.size)); have hF := Lib.hid (hF.out.to hb); have hO := Lib.hid (hO.out.to hb); clear hb; obtain ⟨_, ⟨_, t0, t1, t2, t3⟩, ⟨_, k0, k1, f0, f1⟩⟩ := hF.out; obtain ⟨_, z0, z1, z2⟩ := hO.out) | (go_at_call 29; (with_reducible refine (HP2.out _ hF.out.below hQ.out).mono ?_); rintro e w7 ⟨rfl, hb⟩; have hF := Lib.hid (hF.out.to hb); have hO := Lib.hid (hO.out.to hb); clear hb; obtain ⟨_, ⟨_, t0, t1, t2, t3⟩, ⟨_, k0, k1, f0, f1⟩⟩ := hF.out; obtain ⟨_, z0, z1, z2⟩ := hO.out) | (go_at_call 15; refine (in_any _ _ _ _).mono ?_; rintro e w' ⟨rfl, rfl⟩) | (go_at_call 11; refine (at_any _ _ _).mono ?_; rintro e w3 ⟨rfl, hb3⟩; have hF := Lib.hid (hF.out.to hb3); clear hb3; obtain ⟨_, ⟨_, t0, t1, t2, t3⟩, ⟨_, k0, k1, f0, f1⟩⟩ := hF.out))
        refine post_fault (g := w.heap.size + 1) (x := .int .i64 3) (y := .int .i64 k) Try.results7 rfl (hF.out.two.set _ _) ?_
        exact ⟨ret_val (by rw [H.out]), (hF.out.below.setCell (by simp) _).setCell (by simp) _⟩
      rw [h3] at hmc
      have HI := Lib.hid (show mcode x.sizes (mop x.ops k) = 0 by rw [HO'.out, hmc]; rfl)
      clear hmc h1 h2
      go_wp2_with (first | (go_at_call 29; (with_reducible refine (HP1.out _ hF.out.below hQ.out).mono ?_); rintro e w6 ⟨rfl, hb⟩; have hQ := Lib.hid (hQ.out.trans (hb.mono hQ.out.size)); have hF := Lib.hid (hF.out.to hb); have hO := Lib.hid (hO.out.to hb); clear hb; obtain ⟨_, ⟨_, t0, t1, t2, t3⟩, ⟨_, k0, k1, f0, f1⟩⟩ := hF.out; obtain ⟨_, z0, z1, z2⟩ := hO.out) | (go_at_call 29; (with_reducible refine (HP2.out _ hF.out.below hQ.out).mono ?_); rintro e w7 ⟨rfl, hb⟩; have hF := Lib.hid (hF.out.to hb); have hO := Lib.hid (hO.out.to hb); clear hb; obtain ⟨_, ⟨_, t0, t1, t2, t3⟩, ⟨_, k0, k1, f0, f1⟩⟩ := hF.out; obtain ⟨_, z0, z1, z2⟩ := hO.out) | (go_at_call 15; refine (in_any _ _ _ _).mono ?_; rintro e w' ⟨rfl, rfl⟩))
      go_roundw
      case rel => exact ⟨k + 1, by omega, by go_num, all_step HJ.out HI.out, hF.out⟩
      case measure => simp [intOf]; omega
end Go.Proofs.Ythlafcmabeiagaa
