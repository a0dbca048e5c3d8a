/- Package encode: Multi, the other cases. -/
import Derived.Test.YtiaobanloakplaaDoorEmw
namespace Go.Proofs.YtiaobanloakplaaDoor
open Go.RowKit
set_option linter.unusedSimpArgs false
set_option linter.unusedVariables false
set_option maxRecDepth 100000

structure MuC (x : Tsk) (gs : List (List Int)) : Prop where
  eq : muF x gs = if crB (covR x gs) x.goal = true then (15, -9) else if (mkN x.ops (covR x gs) x.ops.length).isNone then (10, -9) else (0, 0)
  m : x.ops.length ≤ 40
  n48 : (covR x gs).length ≤ 48
  l24 : ∀ k, k < (covR x gs).length → (rw_ (covR x gs) k).length ≤ 24
  l5 : ∀ k, k < (covR x gs).length → (rw_ (covR x gs) k).length ≤ 5
theorem muC_of {x : Tsk} {gs : List (List Int)} (hz0 : (gfF x gs).1 = 0) (hl0 : ¬ (covR x gs).length = 0) (hl8 : ¬ 8 < (covR x gs).length) (hbg : bgA (covR x gs) = false) : MuC x gs := by
  refine ⟨?_, ?_, (covR_bd hz0).1, (covR_bd hz0).2, bgA_false.1 hbg⟩
  · unfold muF
    rw [if_neg (by simpa using hz0), if_neg (by rintro (h | h | h); exact hl0 h; exact hl8 h; rw [hbg] at h; cases h)]
  · have := tkF_val (gfF_zero hz0).2.1
    exact this.len
set_option maxHeartbeats 8000000 in
theorem multi_goal (x : Tsk) (gs : List (List Int)) (A : Option Addr) (c : Nat) (w : World) (hX : TskIn w w.heap.size x) (hG : Rws w w.heap.size A gs) (hgl : gs.length ≤ c) (hgm : c ≤ maxLen) (hT : TabIn w) (hz0 : (gfF x gs).1 = 0) (hl0 : ¬ (covR x gs).length = 0) (hl8 : ¬ 8 < (covR x gs).length) (hbg : bgA (covR x gs) = false) (hcg : crB (covR x gs) x.goal = true) : Calls Tryd.prog 14 #[.agg #[.int .i64 x.n, .slice x.ai x.init.length x.ci, .slice x.ag x.goal.length x.cg, .slice x.ao x.ops.length x.co], .slice A gs.length c] w (MuP w x gs) := by
  have hB2 := (ms_new w x).below
  have HK := Lib.hid (cover_any x gs A c _ (hX.to hB2 hB2.size) (hG.to hB2 hB2.size) hgl hgm (hT.to hB2 (Nat.le_refl _)))
  have HX := Lib.hid (fun (W : World) (h : Below w.heap.size w W) => hX.to h h.size)
  have hF0 := Lib.hid (ms_new w x)
  have HMC := Lib.hid (muC_of hz0 hl0 hl8 hbg)
  obtain ⟨r, hr⟩ : ∃ r, gfF x gs = r := ⟨_, rfl⟩
  have HR := Lib.hid hr
  have hr1 : r = (0, 0) := hr.symm.trans (gfF_zero hz0).1
  have hne : (r.1 != 0) = false := by simp [hr1]
  have hne2 : (r.1 == 0) = true := by simp [hr1]
  have hne3 : (r.2 != 0) = false := by simp [hr1]
  have hne4 : (r.2 == 0) = true := by simp [hr1]
  have d1 : (((covR x gs).length : Int) == 0) = false := lz_no hl0
  have d2 : decide ((8 : Int) < ((covR x gs).length : Int)) = false := decide_eq_false (by omega)
  have e2 : decide (8 < (covR x gs).length) = false := decide_eq_false hl8
  have HCT := Lib.hid (fun (W : World) (aC : Option Addr) (cC : Nat) (h : Rws W W.heap.size aC (covR x gs)) => containsLg_any aC cC (covR x gs) W h HMC.out.n48 HMC.out.l24)
  rw [hbg] at HCT
  have HAS := Lib.hid (fun (W : World) (aC : Option Addr) (cC : Nat) (h : Rws W W.heap.size aC (covR x gs)) (hb : Below w.heap.size w W) => assignments_any aC x.ag cC x.cg (covR x gs) x.goal W h (HX.out W hb).goal HMC.out.n48 HMC.out.l24)
  rw [hcg] at HAS
  have H := Lib.hid (show muF x gs = (15, -9) by rw [HMC.out.eq, if_pos hcg])
  clear hX hG hB2 hgm hgl hT hz0 hl0 hl8 hbg hr hr1 hcg
  go_enter Tryd.func14, Tryd.ntmps14
  go_wp2_with (first | (go_at_call 9; (with_reducible refine HK.out.mono ?_); rintro e w1 ⟨vC, he, hbw, hon⟩; rw [HR.out] at he; subst he; have hcl := hon.out; obtain ⟨aC, cC, rfl, hrn, _⟩ := hcl; have HRN := Lib.hid (hrn.to (al_b w1 (.cells #[.int .i64 r.1, .int .i64 r.2] 28))); have HCO := Lib.hid hon; have hF := Lib.hid ((hF0.out.to hbw).to (al_b w1 (.cells #[.int .i64 r.1, .int .i64 r.2] 28))); have hlt1 := (hF0.out.to hbw).two.lt; have HBW := Lib.hid hbw; clear hbw hon hrn; obtain ⟨_, ⟨_, t0, t1, t2, t3⟩, ⟨_, r0, r1, r2, r3, x0, x1, x2, x3⟩, ⟨_, k0, k1, f0, f1⟩⟩ := hF.out) | (go_at_call 48; (with_reducible refine (HCT.out _ aC cC HRN.out.rws).mono ?_); rintro e w2 ⟨rfl, rfl⟩) | (go_at_call 49; (with_reducible refine (HAS.out _ aC cC HRN.out.rws hF.out.below).mono ?_); rintro e w3 ⟨vG, rfl, ho3, hb3⟩; have hsg := (slA_on ho3).out; obtain ⟨aG, cG, rfl, _⟩ := hsg; have hF := Lib.hid (hF.out.to hb3); clear ho3 hb3 t0 t1 t2 t3 r0 r1 r2 r3 x0 x1 x2 x3 k0 k1 f0 f1; obtain ⟨_, ⟨_, t0, t1, t2, t3⟩, ⟨_, r0, r1, r2, r3, x0, x1, x2, x3⟩, ⟨_, k0, k1, f0, f1⟩⟩ := hF.out))
  obtain ⟨p1, p2, p3⟩ := hF.out.put (.slice none 0 0) (.slice none 0 0) (.slice none 0 0) (.slice none 0 0) (.int .i64 15) (.int .i64 (-9))
  refine post_multi (g := w.heap.size + 1 + 1) (g2 := w.heap.size + 1) (a := .slice none 0 0) (b := .slice none 0 0) (c := .slice none 0 0) (d := .slice none 0 0) (x := .int .i64 15) (y := .int .i64 (-9)) Tryd.results14 rfl rfl ?_ ?_ ?_ ?_ ?_ ?_
  · exact p1.c0
  · exact p1.c1
  · exact p1.c2
  · exact p1.c3
  · exact p2
  · exact muP_bad H.out (by decide) p3
set_option maxHeartbeats 8000000 in
theorem multi_many (x : Tsk) (gs : List (List Int)) (A : Option Addr) (c : Nat) (w : World) (hX : TskIn w w.heap.size x) (hG : Rws w w.heap.size A gs) (hgl : gs.length ≤ c) (hgm : c ≤ maxLen) (hT : TabIn w) (hz0 : (gfF x gs).1 = 0) (hl0 : ¬ (covR x gs).length = 0) (hl8 : ¬ 8 < (covR x gs).length) (hbg : bgA (covR x gs) = false) (hcg : crB (covR x gs) x.goal = false) (hmk : mkN x.ops (covR x gs) x.ops.length = none) : Calls Tryd.prog 14 #[.agg #[.int .i64 x.n, .slice x.ai x.init.length x.ci, .slice x.ag x.goal.length x.cg, .slice x.ao x.ops.length x.co], .slice A gs.length c] w (MuP w x gs) := by
  have hB2 := (ms_new w x).below
  have HK := Lib.hid (cover_any x gs A c _ (hX.to hB2 hB2.size) (hG.to hB2 hB2.size) hgl hgm (hT.to hB2 (Nat.le_refl _)))
  have HX := Lib.hid (fun (W : World) (h : Below w.heap.size w W) => hX.to h h.size)
  have hF0 := Lib.hid (ms_new w x)
  have HMC := Lib.hid (muC_of hz0 hl0 hl8 hbg)
  obtain ⟨r, hr⟩ : ∃ r, gfF x gs = r := ⟨_, rfl⟩
  have HR := Lib.hid hr
  have hr1 : r = (0, 0) := hr.symm.trans (gfF_zero hz0).1
  have hne : (r.1 != 0) = false := by simp [hr1]
  have hne2 : (r.1 == 0) = true := by simp [hr1]
  have hne3 : (r.2 != 0) = false := by simp [hr1]
  have hne4 : (r.2 == 0) = true := by simp [hr1]
  have d1 : (((covR x gs).length : Int) == 0) = false := lz_no hl0
  have d2 : decide ((8 : Int) < ((covR x gs).length : Int)) = false := decide_eq_false (by omega)
  have e2 : decide (8 < (covR x gs).length) = false := decide_eq_false hl8
  have HCT := Lib.hid (fun (W : World) (aC : Option Addr) (cC : Nat) (h : Rws W W.heap.size aC (covR x gs)) => containsLg_any aC cC (covR x gs) W h HMC.out.n48 HMC.out.l24)
  rw [hbg] at HCT
  have HAS := Lib.hid (fun (W : World) (aC : Option Addr) (cC : Nat) (h : Rws W W.heap.size aC (covR x gs)) (hb : Below w.heap.size w W) => assignments_any aC x.ag cC x.cg (covR x gs) x.goal W h (HX.out W hb).goal HMC.out.n48 HMC.out.l24)
  rw [hcg] at HAS
  have HOG := Lib.hid (fun (W : World) (aC : Option Addr) (cC : Nat) (h : Rws W W.heap.size aC (covR x gs)) (hb : Below w.heap.size w W) => operatorsOf_any x.ops (covR x gs) x.ao aC x.co cC W (HX.out W hb).ops h HMC.out.m (by omega) HMC.out.l5)
  rw [hmk] at HOG
  have H := Lib.hid (show muF x gs = (10, -9) by rw [HMC.out.eq, if_neg (by simp [hcg]), if_pos (by rw [hmk]; rfl)])
  clear hX hG hB2 hgm hgl hT hz0 hl0 hl8 hbg hr hr1 hcg hmk
  go_enter Tryd.func14, Tryd.ntmps14
  go_wp2_with (first | (go_at_call 9; (with_reducible refine HK.out.mono ?_); rintro e w1 ⟨vC, he, hbw, hon⟩; rw [HR.out] at he; subst he; have hcl := hon.out; obtain ⟨aC, cC, rfl, hrn, _⟩ := hcl; have HRN := Lib.hid (hrn.to (al_b w1 (.cells #[.int .i64 r.1, .int .i64 r.2] 28))); have HCO := Lib.hid hon; have hF := Lib.hid ((hF0.out.to hbw).to (al_b w1 (.cells #[.int .i64 r.1, .int .i64 r.2] 28))); have hlt1 := (hF0.out.to hbw).two.lt; have HBW := Lib.hid hbw; clear hbw hon hrn; obtain ⟨_, ⟨_, t0, t1, t2, t3⟩, ⟨_, r0, r1, r2, r3, x0, x1, x2, x3⟩, ⟨_, k0, k1, f0, f1⟩⟩ := hF.out) | (go_at_call 48; (with_reducible refine (HCT.out _ aC cC HRN.out.rws).mono ?_); rintro e w2 ⟨rfl, rfl⟩) | (go_at_call 49; (with_reducible refine (HAS.out _ aC cC HRN.out.rws hF.out.below).mono ?_); rintro e w3 ⟨vG, rfl, ho3, hb3⟩; have HO3 := Lib.hid (slA_on ho3); have hsg := HO3.out.out; obtain ⟨aG, cG, rfl, _⟩ := hsg; have HB3 := Lib.hid hb3; have hF := Lib.hid (hF.out.to hb3); clear ho3 hb3 t0 t1 t2 t3 r0 r1 r2 r3 x0 x1 x2 x3 k0 k1 f0 f1; obtain ⟨_, ⟨_, t0, t1, t2, t3⟩, ⟨_, r0, r1, r2, r3, x0, x1, x2, x3⟩, ⟨_, k0, k1, f0, f1⟩⟩ := hF.out) | (go_at_call 50; (with_reducible refine (HOG.out _ aC cC (HRN.out.to HB3.out).rws hF.out.below).mono ?_); rintro e w4 ⟨hb4, he4⟩; simp only at he4; subst he4; have hF := Lib.hid (hF.out.to hb4); clear hb4 t0 t1 t2 t3 r0 r1 r2 r3 x0 x1 x2 x3 k0 k1 f0 f1; obtain ⟨_, ⟨_, t0, t1, t2, t3⟩, ⟨_, r0, r1, r2, r3, x0, x1, x2, x3⟩, ⟨_, k0, k1, f0, f1⟩⟩ := hF.out))
  obtain ⟨p1, p2, p3⟩ := hF.out.put (.slice none 0 0) (.slice none 0 0) (.slice none 0 0) (.slice none 0 0) (.int .i64 10) (.int .i64 (-9))
  refine post_multi (g := w.heap.size + 1 + 1) (g2 := w.heap.size + 1) (a := .slice none 0 0) (b := .slice none 0 0) (c := .slice none 0 0) (d := .slice none 0 0) (x := .int .i64 10) (y := .int .i64 (-9)) Tryd.results14 rfl rfl ?_ ?_ ?_ ?_ ?_ ?_
  · exact p1.c0
  · exact p1.c1
  · exact p1.c2
  · exact p1.c3
  · exact p2
  · exact muP_bad H.out (by decide) p3
end Go.Proofs.YtiaobanloakplaaDoor
