/- Package invariant: Inductive. -/
import Derived.Test.YtenmegkokclolaaDoorVin
import Derived.Test.YtenmegkokclolaaDoorKck
import Derived.Deep.RegionHeld3
namespace Go.Proofs.YtenmegkokclolaaDoor
open Go.RowKit
set_option linter.unusedSimpArgs false
set_option linter.unusedVariables false
set_option maxRecDepth 100000

def iF (x : Tsk) (g : List Int) : Int × Int := if (tkF x).1 ≠ 0 then tkF x else if setB g x.n then (0, 0) else (5, -8)
def iB (x : Tsk) (g : List Int) : Bool := decide ((iF x g).1 = 0) && indB x g
theorem iF_zero {x : Tsk} {g : List Int} (h : (iF x g).1 = 0) : iF x g = (0, 0) ∧ (tkF x).1 = 0 ∧ setB g x.n = true := by
  unfold iF at h ⊢
  by_cases h1 : (tkF x).1 = 0
  · rw [if_neg (by simp [h1])] at h ⊢
    cases hs : setB g x.n
    · rw [hs] at h; cases h
    · exact ⟨rfl, h1, rfl⟩
  · rw [if_pos h1] at h; exact absurd h h1

theorem iS {w V : World} {x : Tsk} (h : Fr1 w V x 0 0) : V.cell? ⟨w.heap.size, 0, none⟩ = some (.int .i64 x.n) ∧ V.cell? ⟨w.heap.size, 1, none⟩ = some (.slice x.ai x.init.length x.ci) ∧ V.cell? ⟨w.heap.size, 2, none⟩ = some (.slice x.ag x.goal.length x.cg) ∧ V.cell? ⟨w.heap.size, 3, none⟩ = some (.slice x.ao x.ops.length x.co) ∧ V.cell? ⟨w.heap.size + 1, 0, none⟩ = some (.int .i64 0) ∧ V.cell? ⟨w.heap.size + 1, 1, none⟩ = some (.int .i64 0) ∧ V.frozen? ⟨w.heap.size + 1, 0, none⟩ = false ∧ V.frozen? ⟨w.heap.size + 1, 1, none⟩ = false ∧ Fr1 w V x 0 0 := ⟨h.box.c0, h.box.c1, h.box.c2, h.box.c3, h.two.fst, h.two.snd, h.two.ffst, h.two.fsnd, h⟩
theorem last9 {P1 P2 P3 P4 P5 P6 P7 P8 Q : Prop} (h : P1 ∧ P2 ∧ P3 ∧ P4 ∧ P5 ∧ P6 ∧ P7 ∧ P8 ∧ Q) : Q := h.2.2.2.2.2.2.2.2
theorem fr1_set {w V : World} {x : Tsk} (h : Fr1 w V x 0 0) : Fr1 w ((V.setCell ⟨w.heap.size + 1, 0, none⟩ (.int .i64 0)).setCell ⟨w.heap.size + 1, 1, none⟩ (.int .i64 0)) x 0 0 :=
  ⟨(h.below.setCell (by simp) _).setCell (by simp) _, (h.box.far (by simp) _).far (by simp) _, h.two.set _ _⟩
theorem eq_below {w w' : World} (h : w = w') : Below w.heap.size w w' := by subst h; exact Below.refl _ _
set_option maxHeartbeats 2000000 in
theorem Inductive_any (x : Tsk) (a2 : Option Addr) (c2 : Nat) (g : List Int) (w : World) (hX : TskIn w w.heap.size x) (hS : Lst w w.heap.size a2 c2 g) :
    Calls Tryd.prog 10 #[.agg #[.int .i64 x.n, .slice x.ai x.init.length x.ci, .slice x.ag x.goal.length x.cg, .slice x.ao x.ops.length x.co], .slice a2 g.length c2] w fun e w' => e = .returned (.tuple #[.bool (iB x g), faultV (iF x g)]) ∧ Below w.heap.size w w' := by
  have hB2 : Below w.heap.size w ((w.alloc (.cells #[.int .i64 x.n, .slice x.ai x.init.length x.ci, .slice x.ag x.goal.length x.cg, .slice x.ao x.ops.length x.co] 25)).alloc (.cells #[.int .i64 0, .int .i64 0] 27)) := by go_grown
  have HC := validate_any x _ (hX.to hB2 hB2.size)
  have HS := Lib.hid (fun (W : World) (h : Below w.heap.size w W) => hS.to h h.size)
  have HX := Lib.hid (fun (W : World) (h : Below w.heap.size w W) => hX.to h h.size)
  clear hX hS hB2
  have hF0 := Lib.hid (fr1_new w x 25 27)
  by_cases ht : (tkF x).1 = 0
  case neg =>
    have H := Lib.hid (show iF x g = tkF x by simp [iF, ht])
    have H2 := Lib.hid (show iB x g = false by unfold iB; rw [H.out, decide_eq_false ht]; rfl)
    have hne : ((tkF x).1 != 0) = true := by simpa using ht
    have hne2 : ((tkF x).1 == 0) = false := by simpa using ht
    clear ht
    go_enter Tryd.func10, Tryd.ntmps10
    go_wp2_with (go_at_call 24; (with_reducible refine HC.mono ?_); rintro e w1 ⟨rfl, hbw⟩; have hF := Lib.hid (hF0.out.to hbw); obtain ⟨_, ⟨_, t0, t1, t2, t3⟩, ⟨_, k0, k1, f0, f1⟩⟩ := hF.out)
    go_region
    all_goals
      go_wp2
      have htw := hF.out.two
      have hbe := hF.out.below
      refine post_with_fault (g := w.heap.size + 1) (x := .int .i64 (tkF x).1) (y := .int .i64 (tkF x).2) Tryd.results10 rfl ?_ ?_
      · (repeat' (first | (with_reducible assumption) | (with_reducible exact two_new _ _ _ _) | (with_reducible exact (two_new _ _ _ _).pair) | (with_reducible exact Two.pair ‹_›) | (with_reducible refine Pair.set ?_ _ _) | (with_reducible refine Two.alloc ?_ _) | (with_reducible refine Pair.alloc ?_ _) | (with_reducible refine two1 ?_) | (with_reducible refine twoN ?_ _) | (with_reducible refine Pair.drew ?_) | (with_reducible refine Pair.drewN ?_ _) | (with_reducible refine Two.far ?_ ?_ _) | (with_reducible refine Pair.far ?_ ?_ _) | (simp; omega)))
      · refine ⟨by rw [H.out, H2.out]; rfl, ?_⟩
        (repeat' (first | (with_reducible assumption) | (with_reducible exact Below.refl _ _) | (with_reducible refine belowN ?_ _) | (with_reducible refine Below.alloc ?_ ?_ _) | (with_reducible refine Below.drew ?_) | (with_reducible refine Below.setCell ?_ ?_ _) | go_size))
  have hv := tkF_val ht
  have h24 : x.n ≤ 24 := by have := hv.eq; have := hv.le; omega
  rw [tkF_fst ht] at HC
  have IS := Lib.hid (fun (W : World) (h : Below w.heap.size w W) => isSet_any a2 c2 g x.n W h24 (HS.out W h).nums (HS.out W h).len)
  cases hs : setB g x.n
  case false =>
    have H := Lib.hid (show iF x g = (5, -8) by simp [iF, ht, hs])
    have H2 := Lib.hid (show iB x g = false by unfold iB; rw [H.out]; rfl)
    clear ht hv
    go_enter Tryd.func10, Tryd.ntmps10
    go_wp2_with (first | (go_at_call 24; (with_reducible refine HC.mono ?_); rintro e w1 ⟨rfl, hbw⟩; have hF := Lib.hid (hF0.out.to hbw); obtain ⟨_, ⟨_, t0, t1, t2, t3⟩, ⟨_, k0, k1, f0, f1⟩⟩ := hF.out) | (go_at_call 25; (with_reducible refine (IS.out _ (hF.out.alloc _).below).mono ?_); rintro e w2 ⟨rfl, rfl⟩; have HF3 := Lib.hid (hF.out.alloc (.cells #[.int .i64 0, .int .i64 0] 27))))
    have htw := hF.out.two
    have hbe := hF.out.below
    refine post_with_fault (g := w.heap.size + 1) (x := .int .i64 5) (y := .int .i64 (-8)) Tryd.results10 rfl ?_ ?_
    · (repeat' (first | (with_reducible assumption) | (with_reducible exact two_new _ _ _ _) | (with_reducible exact (two_new _ _ _ _).pair) | (with_reducible exact Two.pair ‹_›) | (with_reducible refine Pair.set ?_ _ _) | (with_reducible refine Two.alloc ?_ _) | (with_reducible refine Pair.alloc ?_ _) | (with_reducible refine two1 ?_) | (with_reducible refine twoN ?_ _) | (with_reducible refine Pair.drew ?_) | (with_reducible refine Pair.drewN ?_ _) | (with_reducible refine Two.far ?_ ?_ _) | (with_reducible refine Pair.far ?_ ?_ _) | (simp; omega)))
    · refine ⟨by rw [H.out, H2.out]; rfl, ?_⟩
      (repeat' (first | (with_reducible assumption) | (with_reducible exact Below.refl _ _) | (with_reducible refine belowN ?_ _) | (with_reducible refine Below.alloc ?_ ?_ _) | (with_reducible refine Below.drew ?_) | (with_reducible refine Below.setCell ?_ ?_ _) | go_size))
  case true =>
    have hg24 : IsS g 24 := (setB_iff.1 hs).mono h24
    have H := Lib.hid (show iF x g = (0, 0) by simp [iF, ht, hs])
    have H2 := Lib.hid (show iB x g = indB x g by unfold iB; rw [H.out]; rfl)
    have SO := Lib.hid (fun (W : World) (h : Below w.heap.size w W) => setOf_any a2 c2 g W hg24 (HS.out W h).nums)
    have IN := Lib.hid (fun (W : World) (h : Below w.heap.size w W) => inductive_any x g W (HX.out W h) (hv.init.mono (by have := hv.le; omega)) hv.ops24 hg24)
    clear ht hv h24 hg24
    go_enter Tryd.func10, Tryd.ntmps10
    go_wp2_with (first | (go_at_call 24; (with_reducible refine HC.mono ?_); rintro e w1 ⟨rfl, hbw⟩; have hF := Lib.hid (hF0.out.to hbw); obtain ⟨_, ⟨_, t0, t1, t2, t3⟩, ⟨_, k0, k1, f0, f1⟩⟩ := hF.out) | (go_at_call 25; (with_reducible refine (IS.out _ (hF.out.alloc _).below).mono ?_); rintro e w2 ⟨rfl, rfl⟩; have HF3 := Lib.hid (hF.out.alloc (.cells #[.int .i64 0, .int .i64 0] 27))))
    go_region_held3 (fun V => V.cell? ⟨w.heap.size, 0, none⟩ = some (.int .i64 x.n) ∧ V.cell? ⟨w.heap.size, 1, none⟩ = some (.slice x.ai x.init.length x.ci) ∧ V.cell? ⟨w.heap.size, 2, none⟩ = some (.slice x.ag x.goal.length x.cg) ∧ V.cell? ⟨w.heap.size, 3, none⟩ = some (.slice x.ao x.ops.length x.co) ∧ V.cell? ⟨w.heap.size + 1, 0, none⟩ = some (.int .i64 0) ∧ V.cell? ⟨w.heap.size + 1, 1, none⟩ = some (.int .i64 0) ∧ V.frozen? ⟨w.heap.size + 1, 0, none⟩ = false ∧ V.frozen? ⟨w.heap.size + 1, 1, none⟩ = false ∧ Fr1 w V x 0 0) (first | assumption | (refine ⟨?_, ?_, ?_, ?_, ?_, ?_, ?_, ?_, ?_⟩ <;> assumption) | (exact iS HF3.out) | (exact iS (HF3.out.to (Below.refl _ _).drew)) | (exact iS (Fr1.to (last9 (by assumption)) (by assumption))) | (exact iS (fr1_set (last9 (by assumption))))) (first | (go_at_call 27; (with_reducible refine (SO.out _ ?_).mono ?_); (first | exact HF3.out.below.drew | exact HF3.out.below | exact (Fr1.below (last9 (by assumption)))); rintro e w4 ⟨rfl, hw⟩; have hb4 := (eq_below hw)) | (go_at_call 26; (with_reducible refine (IN.out _ ?_).mono ?_); (first | exact HF3.out.below.drew | exact HF3.out.below | exact (Fr1.below (last9 (by assumption)))); rintro e w5 ⟨rfl, hb5⟩))
    all_goals
      have HF6 := Lib.hid (((HF3.out.to (Below.refl _ _).drew).to hb4).to hb5)
      go_wp2
      refine post_with_fault (g := w.heap.size + 1) (x := .int .i64 0) (y := .int .i64 0) Tryd.results10 rfl (HF6.out.two.set _ _) ?_
      rw [H.out, H2.out]
      exact ⟨rfl, (HF6.out.below.setCell (by simp) _).setCell (by simp) _⟩
end Go.Proofs.YtenmegkokclolaaDoor
