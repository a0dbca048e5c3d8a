/- The law NumericMatchesSpec: the walk. -/
import Derived.Test.YtiafplmaigpmeaaNl2
namespace Go.Proofs.Ytiafplmaigpmeaa
open Go.RowKit
set_option linter.unusedSimpArgs false
set_option linter.unusedVariables false
set_option maxRecDepth 100000

theorem last6n {P1 P2 P3 P4 P5 Q : Prop} (h : P1 ∧ P2 ∧ P3 ∧ P4 ∧ P5 ∧ Q) : Q := h.2.2.2.2.2
/-- The law's task, the two wanted faults. -/
structure MS (w W : World) (x : NT) (g gu : Nat) (u v p q : Int) : Prop where
  below : Below w.heap.size w W
  box : NBox W w.heap.size x
  g1 : w.heap.size < g
  g2 : g < gu
  tw : Two W g (.int .i64 u) (.int .i64 v)
  tu : Two W gu (.int .i64 p) (.int .i64 q)
theorem MS.to {w W W' : World} {x : NT} {g gu : Nat} {u v p q : Int} (h : MS w W x g gu u v p q) (hb : Below W.heap.size W W') : MS w W' x g gu u v p q :=
  ⟨h.below.trans (hb.mono h.below.size), h.box.to hb h.box.lt, h.g1, h.g2, two_to h.tw hb, two_to h.tu hb⟩
theorem MS.setw {w W : World} {x : NT} {g gu : Nat} {u v p q : Int} (h : MS w W x g gu u v p q) (u' v' : Int) : MS w ((W.setCell ⟨g, 0, none⟩ (.int .i64 u')).setCell ⟨g, 1, none⟩ (.int .i64 v')) x g gu u' v' p q := by
  have h1 := h.g1
  have h2 := h.g2
  exact ⟨(h.below.setCell (by simp; omega) _).setCell (by simp; omega) _, (h.box.far (by simp; omega) _).far (by simp; omega) _, h1, h2, h.tw.set _ _, (h.tu.far (by simp; omega) _).far (by simp; omega) _⟩
theorem MS.setu {w W : World} {x : NT} {g gu : Nat} {u v p q : Int} (h : MS w W x g gu u v p q) (p' q' : Int) : MS w ((W.setCell ⟨gu, 0, none⟩ (.int .i64 p')).setCell ⟨gu, 1, none⟩ (.int .i64 q')) x g gu u v p' q' := by
  have h1 := h.g1
  have h2 := h.g2
  exact ⟨(h.below.setCell (by simp; omega) _).setCell (by simp; omega) _, (h.box.far (by simp; omega) _).far (by simp; omega) _, h1, h2, (h.tw.far (by simp; omega) _).far (by simp; omega) _, h.tu.set _ _⟩
theorem ms_new {w W : World} {x : NT} {g : Nat} {u v : Int} (h : WN w W x g u v) (p q : Int) : MS w (W.alloc (.cells #[.int .i64 p, .int .i64 q] 28)) x g W.heap.size u v p q :=
  ⟨h.below.alloc h.below.size _, h.box.to (al_b _ _) h.box.lt, h.gt, h.two.lt, two_to h.two (al_b _ _), two_new _ _ _ _⟩
theorem in_nil {w : World} {base : Nat} {v : Value} (h : w.ownsRow base 3 1 v 0 []) : ∃ a c, v = .slice a 0 c ∧ Calls Try.prog 19 #[v, .slice none 0 0] w fun e w' => e = .returned (.bool true) ∧ Below w.heap.size w w' := by
  obtain ⟨a, c, e, hl, _⟩ := own_lst (l := []) h
  exact ⟨a, c, e, by rw [e]; exact ints_same a none c 0 [] [] rfl w hl (lst_nil _ _)⟩
set_option maxHeartbeats 4000000 in
theorem mspec_bad (hNv : NvC) (hNa : NaC) (hNs : NsC) (hNb : NbC) (x : NT) (a2 : Option Addr) (c2 : Nat) (v : List Int) (op : Int) (a3 : Option Addr) (c3 : Nat) (plan : List Int) (w : World) (hX : NTIn w w.heap.size x) (hL : Lst w w.heap.size a2 c2 v) (hz2 : a2 = none → c2 = 0) (hP : Lst w w.heap.size a3 c3 plan) (h0 : (nfF x).1 ≠ 0) :
    Calls Try.prog 3 #[.agg #[.slice x.ai x.init.length x.ci, .slice x.ag x.goal.length x.cg, .slice x.ao x.ops.length x.co], .slice a2 v.length c2, .int .i64 op, .slice a3 plan.length c3] w fun e w' => e = .returned (.bool true) ∧ Below w.heap.size w w' := by
  have HX0 := Lib.hid (fun (W : World) (h : Below w.heap.size w W) => hX.to h h.size)
  have HL0 := Lib.hid (fun (W : World) (h : Below w.heap.size w W) => hL.to h h.size)
  have HP0 := Lib.hid (fun (W : World) (h : Below w.heap.size w W) => hP.to h h.size)
  have HB0 := Lib.hid (al_b w (.cells #[.slice x.ai x.init.length x.ci, .slice x.ag x.goal.length x.cg, .slice x.ao x.ops.length x.co] 26))
  have HBX := Lib.hid (nbox_new w x 26)
  have HNF := Lib.hid (numericFault_any x _ (HX0.out _ HB0.out))
  have HNV := Lib.hid (fun (W : World) (h : NTIn W W.heap.size x) => hNv x W h)
  have HNS := Lib.hid (fun (W : World) (h : NTIn W W.heap.size x) (h2 : Lst W W.heap.size a3 c3 plan) => hNs x a3 c3 plan W h h2)
  have HNA := Lib.hid (fun (W : World) (h : NTIn W W.heap.size x) (h2 : Lst W W.heap.size a2 c2 v) => hNa x a2 c2 v op W h h2 hz2)
  have e1 : nspF x plan = nfF x := by unfold nspF; rw [if_pos h0]
  have e2 : nspB x plan = false := by unfold nspB; rw [e1, decide_eq_false h0]; rfl
  have e3 : napF x v op = nfF x := by unfold napF; rw [if_pos h0]
  have e4 : napL x v op = [] := by unfold napL; rw [e3, if_neg h0]
  rw [e1, e2] at HNS
  rw [e3, e4] at HNA
  have hne : ((nfF x).1 == 0) = false := by simpa using h0
  clear hX hL hP h0 e1 e2 e3 e4
  go_enter Try.func3, Try.ntmps3
  go_wp2_with (go_at_call 8; (with_reducible refine HNF.out.mono ?_); rintro e wF ⟨rfl, hb⟩; have hN := Lib.hid (wn_new (HB0.out.trans (hb.mono HB0.out.size)) (HBX.out.to hb HBX.out.lt) (nfF x).1 (nfF x).2); clear hb)
  generalize hg : wF.heap.size = g at *
  generalize hW : wF.alloc (.cells #[.int .i64 (nfF x).1, .int .i64 (nfF x).2] 28) = W1 at *
  clear hg hW
  have HSO := Lib.hid (fun (Y : World) (h : Below W1.heap.size W1 Y) => (⟨(hN.out.to h).box.c0, (hN.out.to h).box.c1, (hN.out.to h).box.c2, (hN.out.to h).two.fst, (hN.out.to h).two.snd, h⟩ : Y.cell? ⟨w.heap.size, 0, none⟩ = some (.slice x.ai x.init.length x.ci) ∧ Y.cell? ⟨w.heap.size, 1, none⟩ = some (.slice x.ag x.goal.length x.cg) ∧ Y.cell? ⟨w.heap.size, 2, none⟩ = some (.slice x.ao x.ops.length x.co) ∧ Y.cell? ⟨g, 0, none⟩ = some (.int .i64 (nfF x).1) ∧ Y.cell? ⟨g, 1, none⟩ = some (.int .i64 (nfF x).2) ∧ Below W1.heap.size W1 Y))
  have HX1 := Lib.hid (fun (Y : World) (h : Below W1.heap.size W1 Y) => HX0.out _ (hN.out.to h).below)
  have hww := Below.refl W1.heap.size W1
  go_region_held3 (fun Y => Y.cell? ⟨w.heap.size, 0, none⟩ = some (.slice x.ai x.init.length x.ci) ∧ Y.cell? ⟨w.heap.size, 1, none⟩ = some (.slice x.ag x.goal.length x.cg) ∧ Y.cell? ⟨w.heap.size, 2, none⟩ = some (.slice x.ao x.ops.length x.co) ∧ Y.cell? ⟨g, 0, none⟩ = some (.int .i64 (nfF x).1) ∧ Y.cell? ⟨g, 1, none⟩ = some (.int .i64 (nfF x).2) ∧ Below W1.heap.size W1 Y) (first | (refine ⟨?_, ?_, ?_, ?_, ?_, ?_⟩ <;> assumption) | (exact HSO.out _ hww.drew) | (exact HSO.out _ hww) | (exact HSO.out _ (bel_up (last6n (by assumption)) (by assumption))) | (exact HSO.out _ (b1d (last6n (by assumption))))) (first | (go_at_call 9; refine (counts_any hNv hNa hNs hNb _).mono ?_; rintro e wc ⟨rfl, hb⟩) | (go_at_call 10; refine (HNV.out _ (HX1.out _ (last6n (by assumption)))).mono ?_; rintro e wv ⟨rfl, hb⟩))
  all_goals
    have hN2 := Lib.hid (hN.out.to (last6n (by assumption)))
    have hM := Lib.hid (ms_new hN2.out (nfF x).1 (nfF x).2)
    obtain ⟨_, ⟨_, t0, t1, t2⟩, _, _, ⟨_, k0, k1, f0, f1⟩, ⟨_, m0, m1, n0, n1⟩⟩ := hM.out
    obtain ⟨_, _, _, ⟨_, l0, l1, _, _⟩⟩ := hN2.out
    go_wp2_with (first | (go_at_call 12; (with_reducible refine (HNS.out _ (HX0.out _ hM.out.below) (HP0.out _ hM.out.below)).mono ?_); rintro e wS ⟨rfl, hb⟩; have hM := Lib.hid ((hM.out.to hb).to (al_b wS (.cells #[.int .i64 (nfF x).1, .int .i64 (nfF x).2] 28))); have hT := Lib.hid (two_new wS (.int .i64 (nfF x).1) (.int .i64 (nfF x).2) 28); clear hb; obtain ⟨_, ⟨_, t0, t1, t2⟩, _, _, ⟨_, k0, k1, f0, f1⟩, ⟨_, m0, m1, n0, n1⟩⟩ := hM.out; obtain ⟨_, z0, z1, _, _⟩ := hT.out) | (go_at_call 18; (with_reducible refine (HNA.out _ (HX0.out _ hM.out.below) (HL0.out _ hM.out.below)).mono ?_); rintro e wA ⟨vA, rfl, ho, hb⟩; have hM := Lib.hid ((hM.out.to hb).to (al_b wA (.cells #[.int .i64 (nfF x).1, .int .i64 (nfF x).2] 28))); have hT := Lib.hid (two_new wA (.int .i64 (nfF x).1) (.int .i64 (nfF x).2) 28); have HOA := Lib.hid (own_to ho (al_b wA (.cells #[.int .i64 (nfF x).1, .int .i64 (nfF x).2] 28))); clear hb ho; obtain ⟨_, ⟨_, t0, t1, t2⟩, _, _, ⟨_, k0, k1, f0, f1⟩, ⟨_, m0, m1, n0, n1⟩⟩ := hM.out; obtain ⟨_, z0, z1, _, _⟩ := hT.out) | (go_at_call 19; obtain ⟨_, _, _, hci⟩ := in_nil HOA.out; (with_reducible refine hci.mono ?_); rintro e wI ⟨rfl, hb⟩; have hM := Lib.hid (hM.out.to hb); clear hb))
    go_ret
    exact ⟨rfl, hM.out.below⟩
end Go.Proofs.Ytiafplmaigpmeaa
