/- Package encode: Multi, the walk. -/
import Derived.Test.YtiaobanloakplaaDoorEmu
namespace Go.Proofs.YtiaobanloakplaaDoor
open Go.RowKit
set_option linter.unusedSimpArgs false
set_option linter.unusedVariables false
set_option maxRecDepth 100000

structure MS (w V : World) (x : Tsk) : Prop where
  below : Below w.heap.size w V
  box : TBox V w.heap.size x
  res : Quad V (w.heap.size + 1) (.slice none 0 0) (.slice none 0 0) (.slice none 0 0) (.slice none 0 0)
  two : Two V (w.heap.size + 2) (.int .i64 0) (.int .i64 0)
theorem MS.to {w V V2 : World} {x : Tsk} (h : MS w V x) (hb : Below V.heap.size V V2) : MS w V2 x :=
  ⟨h.below.trans (hb.mono h.below.size), h.box.to hb h.box.lt, h.res.to hb h.res.lt, h.two.to hb h.two.lt⟩
theorem ms_new (w : World) (x : Tsk) : MS w (((w.alloc (.cells #[.int .i64 x.n, .slice x.ai x.init.length x.ci, .slice x.ag x.goal.length x.cg, .slice x.ao x.ops.length x.co] 25)).alloc (.cells #[.slice none 0 0, .slice none 0 0, .slice none 0 0, .slice none 0 0] 38)).alloc (.cells #[.int .i64 0, .int .i64 0] 28)) x := by
  have h1 := tbox_new w x 25
  have q := quad_new (w.alloc (.cells #[.int .i64 x.n, .slice x.ai x.init.length x.ci, .slice x.ag x.goal.length x.cg, .slice x.ao x.ops.length x.co] 25)) (.slice none 0 0) (.slice none 0 0) (.slice none 0 0) (.slice none 0 0) 38
  have z := two_new ((w.alloc (.cells #[.int .i64 x.n, .slice x.ai x.init.length x.ci, .slice x.ag x.goal.length x.cg, .slice x.ao x.ops.length x.co] 25)).alloc (.cells #[.slice none 0 0, .slice none 0 0, .slice none 0 0, .slice none 0 0] 38)) (.int .i64 0) (.int .i64 0) 28
  refine ⟨by go_grown, (h1.alloc _).alloc _, ?_, ?_⟩
  · have := q.to (al_b _ (.cells #[.int .i64 0, .int .i64 0] 28)) (by simp)
    simpa using this
  · simpa using z
theorem MS.put {w V : World} {x : Tsk} (h : MS w V x) (a b c d u v : Value) :
    Quad ((((((V.setCell ⟨w.heap.size + 1, 0, none⟩ a).setCell ⟨w.heap.size + 1, 1, none⟩ b).setCell ⟨w.heap.size + 1, 2, none⟩ c).setCell ⟨w.heap.size + 1, 3, none⟩ d).setCell ⟨w.heap.size + 2, 0, none⟩ u).setCell ⟨w.heap.size + 2, 1, none⟩ v) (w.heap.size + 1) a b c d ∧
    Two ((((((V.setCell ⟨w.heap.size + 1, 0, none⟩ a).setCell ⟨w.heap.size + 1, 1, none⟩ b).setCell ⟨w.heap.size + 1, 2, none⟩ c).setCell ⟨w.heap.size + 1, 3, none⟩ d).setCell ⟨w.heap.size + 2, 0, none⟩ u).setCell ⟨w.heap.size + 2, 1, none⟩ v) (w.heap.size + 2) u v ∧
    Below w.heap.size w ((((((V.setCell ⟨w.heap.size + 1, 0, none⟩ a).setCell ⟨w.heap.size + 1, 1, none⟩ b).setCell ⟨w.heap.size + 1, 2, none⟩ c).setCell ⟨w.heap.size + 1, 3, none⟩ d).setCell ⟨w.heap.size + 2, 0, none⟩ u).setCell ⟨w.heap.size + 2, 1, none⟩ v) :=
  ⟨(((((h.res.s0 a).s1 b).s2 c).s3 d).far (by simp) u).far (by simp) v, ((((h.two.far (by simp) a).far (by simp) b).far (by simp) c).far (by simp) d).set u v,
    (((((h.below.setCell (by first | (simp; done) | (simp; omega) | omega | (simp [World.setCell]; done) | (simp [World.setCell]; omega)) a).setCell (by first | (simp; done) | (simp; omega) | omega | (simp [World.setCell]; done) | (simp [World.setCell]; omega)) b).setCell (by first | (simp; done) | (simp; omega) | omega | (simp [World.setCell]; done) | (simp [World.setCell]; omega)) c).setCell (by first | (simp; done) | (simp; omega) | omega | (simp [World.setCell]; done) | (simp [World.setCell]; omega)) d).setCell (by first | (simp; done) | (simp; omega) | omega | (simp [World.setCell]; done) | (simp [World.setCell]; omega)) u).setCell (by first | (simp; done) | (simp; omega) | omega | (simp [World.setCell]; done) | (simp [World.setCell]; omega)) v⟩
set_option maxHeartbeats 8000000 in
theorem multi_bad (x : Tsk) (gs : List (List Int)) (A : Option Addr) (c : Nat) (w : World) (hX : TskIn w w.heap.size x) (hG : Rws w w.heap.size A gs) (hgl : gs.length ≤ c) (hgm : c ≤ maxLen) (hT : TabIn w)
    (hb : (gfF x gs).1 ≠ 0 ∨ (covR x gs).length = 0 ∨ 8 < (covR x gs).length ∨ bgA (covR x gs) = true) :
    Calls Tryd.prog 14 #[.agg #[.int .i64 x.n, .slice x.ai x.init.length x.ci, .slice x.ag x.goal.length x.cg, .slice x.ao x.ops.length x.co], .slice A gs.length c] w (MuP w x gs) := by
  have hB2 := (ms_new w x).below
  have HK := Lib.hid (cover_any x gs A c _ (hX.to hB2 hB2.size) (hG.to hB2 hB2.size) hgl hgm (hT.to hB2 (Nat.le_refl _)))
  clear hX hG hB2 hgm hgl hT
  have hF0 := Lib.hid (ms_new w x)
  obtain ⟨r, hr⟩ : ∃ r, gfF x gs = r := ⟨_, rfl⟩
  have HR := Lib.hid hr
  by_cases hz : r.1 = 0
  case neg =>
    have hne : (r.1 != 0) = true := by simpa using hz
    have hne2 : (r.1 == 0) = false := by simpa using hz
    have H := Lib.hid (show muF x gs = r by unfold muF; rw [hr, if_pos hz])
    have HZ := Lib.hid hz
    clear hz hr hb
    go_enter Tryd.func14, Tryd.ntmps14
    go_wp2_with (go_at_call 9; (with_reducible refine HK.out.mono ?_); rintro e w1 ⟨vC, he, hbw, hon⟩; rw [HR.out] at he; subst he; have hcl := hon.out; obtain ⟨aC, cC, rfl, hrn, _⟩ := hcl; have HRN := Lib.hid hrn; have hF := Lib.hid ((hF0.out.to hbw).to (al_b w1 (.cells #[.int .i64 r.1, .int .i64 r.2] 28))); have hlt1 := (hF0.out.to hbw).two.lt; have hn1 : ¬ (w.heap.size + 1 = w1.heap.size) := (by omega); have hn2 : ¬ (w1.heap.size = w.heap.size + 1) := (by omega); have hn3 : ¬ (w.heap.size + 2 = w1.heap.size) := (by omega); have hn4 : ¬ (w1.heap.size = w.heap.size + 2) := (by omega); have hz1 := hbw.size; clear hbw hon hrn; obtain ⟨_, ⟨_, t0, t1, t2, t3⟩, ⟨_, r0, r1, r2, r3, x0, x1, x2, x3⟩, ⟨_, k0, k1, f0, f1⟩⟩ := hF.out)
    go_region
    go_wp2
    obtain ⟨p1, p2, p3⟩ := hF.out.put (.slice none 0 0) (.slice none 0 0) (.slice none 0 0) (.slice none 0 0) (.int .i64 r.1) (.int .i64 r.2)
    have p1 := p1.to (Below.refl _ _).drew p1.lt
    refine post_multi (g := w.heap.size + 1 + 1) (g2 := w.heap.size + 1) (a := .slice none 0 0) (b := .slice none 0 0) (c := .slice none 0 0) (d := .slice none 0 0) (x := .int .i64 r.1) (y := .int .i64 r.2) Tryd.results14 rfl rfl ?_ ?_ ?_ ?_ ?_ ?_
    · exact p1.c0
    · exact p1.c1
    · exact p1.c2
    · exact p1.c3
    · exact (two1 p2)
    · exact muP_bad H.out HZ.out p3.drew
  have hz0 : (gfF x gs).1 = 0 := by rw [hr]; exact hz
  have hr1 : r = (0, 0) := hr.symm.trans (gfF_zero hz0).1
  have hne : (r.1 != 0) = false := by simp [hr1]
  have hne2 : (r.1 == 0) = true := by simp [hr1]
  have hne3 : (r.2 != 0) = false := by simp [hr1]
  have hne4 : (r.2 == 0) = true := by simp [hr1]
  have hb : (covR x gs).length = 0 ∨ 8 < (covR x gs).length ∨ bgA (covR x gs) = true := by
    rcases hb with h | h
    · exact absurd hz0 h
    · exact h
  have H := Lib.hid (show muF x gs = (10, -9) by unfold muF; rw [if_neg (by simpa using hz0), if_pos hb])
  have HBD := Lib.hid (covR_bd hz0)
  have HCT := Lib.hid (fun (W : World) (aC : Option Addr) (cC : Nat) (h : Rws W W.heap.size aC (covR x gs)) => containsLg_any aC cC (covR x gs) W h HBD.out.1 HBD.out.2)
  clear hz hr hz0 hr1
  have h48 := HBD.out.1
  by_cases h0 : (covR x gs).length = 0
  · have d1 : (((covR x gs).length : Int) == 0) = true := lz_yes h0
    clear hb h0
    go_enter Tryd.func14, Tryd.ntmps14
    go_wp2_with (go_at_call 9; (with_reducible refine HK.out.mono ?_); rintro e w1 ⟨vC, he, hbw, hon⟩; rw [HR.out] at he; subst he; have hcl := hon.out; obtain ⟨aC, cC, rfl, hrn, _⟩ := hcl; have HRN := Lib.hid hrn; have hF := Lib.hid ((hF0.out.to hbw).to (al_b w1 (.cells #[.int .i64 r.1, .int .i64 r.2] 28))); have hlt1 := (hF0.out.to hbw).two.lt; have hn1 : ¬ (w.heap.size + 1 = w1.heap.size) := (by omega); have hn2 : ¬ (w1.heap.size = w.heap.size + 1) := (by omega); have hn3 : ¬ (w.heap.size + 2 = w1.heap.size) := (by omega); have hn4 : ¬ (w1.heap.size = w.heap.size + 2) := (by omega); have hz1 := hbw.size; clear hbw hon hrn; obtain ⟨_, ⟨_, t0, t1, t2, t3⟩, ⟨_, r0, r1, r2, r3, x0, x1, x2, x3⟩, ⟨_, k0, k1, f0, f1⟩⟩ := hF.out)
    obtain ⟨p1, p2, p3⟩ := hF.out.put (.slice none 0 0) (.slice none 0 0) (.slice none 0 0) (.slice none 0 0) (.int .i64 10) (.int .i64 (-9))
    refine post_multi (g := w.heap.size + 1 + 1) (g2 := w.heap.size + 1) (a := .slice none 0 0) (b := .slice none 0 0) (c := .slice none 0 0) (d := .slice none 0 0) (x := .int .i64 10) (y := .int .i64 (-9)) Tryd.results14 rfl rfl ?_ ?_ ?_ ?_ ?_ ?_
    · exact p1.c0
    · exact p1.c1
    · exact p1.c2
    · exact p1.c3
    · exact p2
    · exact muP_bad H.out (by decide) p3
  have d1 : (((covR x gs).length : Int) == 0) = false := lz_no h0
  by_cases h8 : 8 < (covR x gs).length
  · have d2 : decide ((8 : Int) < ((covR x gs).length : Int)) = true := decide_eq_true (by omega)
    have e2 : decide (8 < (covR x gs).length) = true := decide_eq_true h8
    clear hb h0 h8
    go_enter Tryd.func14, Tryd.ntmps14
    go_wp2_with (go_at_call 9; (with_reducible refine HK.out.mono ?_); rintro e w1 ⟨vC, he, hbw, hon⟩; rw [HR.out] at he; subst he; have hcl := hon.out; obtain ⟨aC, cC, rfl, hrn, _⟩ := hcl; have HRN := Lib.hid hrn; have hF := Lib.hid ((hF0.out.to hbw).to (al_b w1 (.cells #[.int .i64 r.1, .int .i64 r.2] 28))); have hlt1 := (hF0.out.to hbw).two.lt; have hn1 : ¬ (w.heap.size + 1 = w1.heap.size) := (by omega); have hn2 : ¬ (w1.heap.size = w.heap.size + 1) := (by omega); have hn3 : ¬ (w.heap.size + 2 = w1.heap.size) := (by omega); have hn4 : ¬ (w1.heap.size = w.heap.size + 2) := (by omega); have hz1 := hbw.size; clear hbw hon hrn; obtain ⟨_, ⟨_, t0, t1, t2, t3⟩, ⟨_, r0, r1, r2, r3, x0, x1, x2, x3⟩, ⟨_, k0, k1, f0, f1⟩⟩ := hF.out)
    obtain ⟨p1, p2, p3⟩ := hF.out.put (.slice none 0 0) (.slice none 0 0) (.slice none 0 0) (.slice none 0 0) (.int .i64 10) (.int .i64 (-9))
    refine post_multi (g := w.heap.size + 1 + 1) (g2 := w.heap.size + 1) (a := .slice none 0 0) (b := .slice none 0 0) (c := .slice none 0 0) (d := .slice none 0 0) (x := .int .i64 10) (y := .int .i64 (-9)) Tryd.results14 rfl rfl ?_ ?_ ?_ ?_ ?_ ?_
    · exact p1.c0
    · exact p1.c1
    · exact p1.c2
    · exact p1.c3
    · exact p2
    · exact muP_bad H.out (by decide) p3
  have d2 : decide ((8 : Int) < ((covR x gs).length : Int)) = false := decide_eq_false (by omega)
  have e2 : decide (8 < (covR x gs).length) = false := decide_eq_false h8
  have hbg : bgA (covR x gs) = true := by
    rcases hb with h | h | h
    · exact absurd h h0
    · exact absurd h h8
    · exact h
  rw [hbg] at HCT
  clear hb h0 h8 hbg
  go_enter Tryd.func14, Tryd.ntmps14
  go_wp2_with (first | (go_at_call 9; (with_reducible refine HK.out.mono ?_); rintro e w1 ⟨vC, he, hbw, hon⟩; rw [HR.out] at he; subst he; have hcl := hon.out; obtain ⟨aC, cC, rfl, hrn, _⟩ := hcl; have HRN := Lib.hid hrn; have hF := Lib.hid ((hF0.out.to hbw).to (al_b w1 (.cells #[.int .i64 r.1, .int .i64 r.2] 28))); have hlt1 := (hF0.out.to hbw).two.lt; have hn1 : ¬ (w.heap.size + 1 = w1.heap.size) := (by omega); have hn2 : ¬ (w1.heap.size = w.heap.size + 1) := (by omega); have hn3 : ¬ (w.heap.size + 2 = w1.heap.size) := (by omega); have hn4 : ¬ (w1.heap.size = w.heap.size + 2) := (by omega); have hz1 := hbw.size; clear hbw hon hrn; obtain ⟨_, ⟨_, t0, t1, t2, t3⟩, ⟨_, r0, r1, r2, r3, x0, x1, x2, x3⟩, ⟨_, k0, k1, f0, f1⟩⟩ := hF.out) | (go_at_call 48; (with_reducible refine (HCT.out _ aC cC ((HRN.out.to (al_b w1 _)).rws)).mono ?_); rintro e w2 ⟨rfl, rfl⟩))
  obtain ⟨p1, p2, p3⟩ := hF.out.put (.slice none 0 0) (.slice none 0 0) (.slice none 0 0) (.slice none 0 0) (.int .i64 10) (.int .i64 (-9))
  refine post_multi (g := w.heap.size + 1 + 1) (g2 := w.heap.size + 1) (a := .slice none 0 0) (b := .slice none 0 0) (c := .slice none 0 0) (d := .slice none 0 0) (x := .int .i64 10) (y := .int .i64 (-9)) Tryd.results14 rfl rfl ?_ ?_ ?_ ?_ ?_ ?_
  · exact p1.c0
  · exact p1.c1
  · exact p1.c2
  · exact p1.c3
  · exact p2
  · exact muP_bad H.out (by decide) p3
end Go.Proofs.YtiaobanloakplaaDoor
