/- Apply of package strips. -/
import Derived.Test.YtkflidnclndpkaaDoorKap
import Derived.Deep.RegionHeld3
namespace Go.Proofs.YtkflidnclndpkaaDoor
open Go.RowKit
set_option linter.unusedSimpArgs false
set_option linter.unusedVariables false
set_option maxRecDepth 100000

theorem lst_one {w : World} {g : Nat} {op : Int} (hg : g < w.heap.size) (h : w.cell? ⟨g, 0, none⟩ = some (.int .i64 op)) : Lst w w.heap.size (some ⟨g, 0, none⟩) 1 [op] :=
  ⟨fun _ => ⟨g, 0, rfl, hg, fun k hk => by
    have : k = 0 := by simp at hk; exact hk
    subst this
    exact h⟩, by simp, by simp [maxLen]⟩
theorem check_o (x : Tsk) (a2 : Option Addr) (c2 : Nat) (s : List Int) (op : Int) (g : Nat) (w : World) (hX : TskIn w w.heap.size x) (hS : Lst w w.heap.size a2 c2 s) (hg : g < w.heap.size) (h : w.cell? ⟨g, 0, none⟩ = some (.int .i64 op)) :
    Calls Tryd.prog 36 #[.agg #[.int .i64 x.n, .slice x.ai x.init.length x.ci, .slice x.ag x.goal.length x.cg, .slice x.ao x.ops.length x.co], .slice a2 s.length c2, .slice (some ⟨g, 0, none⟩) 1 1] w fun e w' => e = .returned (faultV (ckF x s [op])) ∧ Below w.heap.size w w' :=
  check_any x a2 (some ⟨g, 0, none⟩) c2 1 s [op] w hX hS (lst_one hg h)
/-- The operator with the number op. -/
def opn (x : Tsk) (op : Int) : Opr := opr x.ops op.toNat
theorem ckF_op {x : Tsk} {s : List Int} {op : Int} (h : (ckF x s [op]).1 = 0) : ckF x s [op] = (0, 0) ∧ (stF x s).1 = 0 ∧ 0 ≤ op ∧ op < x.ops.length := by
  obtain ⟨h1, h2, _, h3⟩ := ckF_zero h
  have : 0 ≤ ix [op] 0 ∧ ix [op] 0 < x.ops.length := planB_at h3 (k := 0) (Nat.zero_lt_one)
  exact ⟨h1, h2, this.1, this.2⟩
def ayF (x : Tsk) (s : List Int) (op : Int) : Int × Int := if (ckF x s [op]).1 ≠ 0 then ckF x s [op] else if subB (opn x op).pre s then (0, 0) else (11, op)
def ayL (x : Tsk) (s : List Int) (op : Int) : List Int := if (ayF x s op).1 = 0 then aftL x.n.toNat (opn x op).add (opn x op).del s else []

section
variable {W V V' : World} {g b q : Nat} {u0 u1 u2 u3 u4 : Value}
theorem rd_step (hg : g < W.heap.size) (hb : b < W.heap.size) (h : V.cell? ⟨g, 3, none⟩ = some u0 ∧ V.cell? ⟨b, q, none⟩ = some u1 ∧ V.cell? ⟨b, q + 1, none⟩ = some u2 ∧ V.cell? ⟨b, q + 2, none⟩ = some u3 ∧ V.cell? ⟨b, q + 3, none⟩ = some u4 ∧ Below W.heap.size W V) (h2 : Below V.heap.size V V') :
    V'.cell? ⟨g, 3, none⟩ = some u0 ∧ V'.cell? ⟨b, q, none⟩ = some u1 ∧ V'.cell? ⟨b, q + 1, none⟩ = some u2 ∧ V'.cell? ⟨b, q + 2, none⟩ = some u3 ∧ V'.cell? ⟨b, q + 3, none⟩ = some u4 ∧ Below W.heap.size W V' := by
  obtain ⟨h0, h1, hh2, h3, h4, h5⟩ := h
  have hz := h5.size
  exact ⟨(h2.cell (p := ⟨g, 3, none⟩) (by show g < _; omega)).trans h0, (h2.cell (p := ⟨b, q, none⟩) (by show b < _; omega)).trans h1, (h2.cell (p := ⟨b, q + 1, none⟩) (by show b < _; omega)).trans hh2,
    (h2.cell (p := ⟨b, q + 2, none⟩) (by show b < _; omega)).trans h3, (h2.cell (p := ⟨b, q + 3, none⟩) (by show b < _; omega)).trans h4, h5.trans (h2.mono hz)⟩
theorem rd_below (h : V.cell? ⟨g, 3, none⟩ = some u0 ∧ V.cell? ⟨b, q, none⟩ = some u1 ∧ V.cell? ⟨b, q + 1, none⟩ = some u2 ∧ V.cell? ⟨b, q + 2, none⟩ = some u3 ∧ V.cell? ⟨b, q + 3, none⟩ = some u4 ∧ Below W.heap.size W V) : Below W.heap.size W V := h.2.2.2.2.2
end

set_option maxHeartbeats 4000000 in
theorem apply_any (x : Tsk) (a2 : Option Addr) (c2 : Nat) (s : List Int) (op : Int) (w : World) (hX : TskIn w w.heap.size x) (hS : Lst w w.heap.size a2 c2 s) (hT : TabIn w) :
    Calls Tryd.prog 46 #[.agg #[.int .i64 x.n, .slice x.ai x.init.length x.ci, .slice x.ag x.goal.length x.cg, .slice x.ao x.ops.length x.co], .slice a2 s.length c2, .int .i64 op] w (SlF w (ayF x s op) (ayL x s op)) := by
  have hB2 : Below w.heap.size w (((w.alloc (.cells #[.int .i64 x.n, .slice x.ai x.init.length x.ci, .slice x.ag x.goal.length x.cg, .slice x.ao x.ops.length x.co] 25)).alloc (.cells #[.int .i64 0, .int .i64 0] 27)).alloc (.cells #[.int .i64 op] 3)) := by go_grown
  have hon := one_new ((w.alloc (.cells #[.int .i64 x.n, .slice x.ai x.init.length x.ci, .slice x.ag x.goal.length x.cg, .slice x.ao x.ops.length x.co] 25)).alloc (.cells #[.int .i64 0, .int .i64 0] 27)) (.int .i64 op) 3
  simp only [World.size_alloc] at hon
  have HC := check_o x a2 c2 s op (w.heap.size + 1 + 1) _ (hX.to hB2 hB2.size) (hS.to hB2 hB2.size) hon.lt hon.fst
  clear hon
  have HX := Lib.hid (fun (W : World) (h : Below w.heap.size w W) => hX.to h h.size)
  have HS := Lib.hid (fun (W : World) (h : Below w.heap.size w W) => hS.to h h.size)
  have HT := Lib.hid (fun (W : World) (h : Below w.heap.size w W) => hT.to h (Nat.le_refl _))
  clear hX hS hB2 hT
  have hF0 := Lib.hid ((fr1_new w x 25 27).alloc (.cells #[.int .i64 op] 3))
  by_cases ht : (ckF x s [op]).1 = 0
  case neg =>
    have H := show ayF x s op = ckF x s [op] by simp [ayF, ht]
    rw [H]
    clear H
    have H2 := Lib.hid (show ayL x s op = [] by simp [ayL, ayF, ht])
    have hne : ((ckF x s [op]).1 != 0) = true := by simpa using ht
    have hne2 : ((ckF x s [op]).1 == 0) = false := by simpa using ht
    clear ht
    go_enter Tryd.func46, Tryd.ntmps46
    go_wp2_with (go_at_call 36; (with_reducible refine HC.mono ?_); rintro e w1 ⟨rfl, hbw⟩; have hF := Lib.hid (hF0.out.to hbw); obtain ⟨_, ⟨_, t0, t1, t2, t3⟩, ⟨_, k0, k1, f0, f1⟩⟩ := hF.out)
    go_region
    all_goals
      go_wp2
      have htw := hF.out.two
      have hbe := hF.out.below
      refine post_with_fault (g := w.heap.size + 1) (x := .int .i64 (ckF x s [op]).1) (y := .int .i64 (ckF x s [op]).2) Tryd.results46 rfl ?_ ?_
      · (repeat' (first | (with_reducible assumption) | (with_reducible exact two_new _ _ _ _) | (with_reducible exact (two_new _ _ _ _).pair) | (with_reducible exact Two.pair ‹_›) | (with_reducible refine Pair.set ?_ _ _) | (with_reducible refine Two.alloc ?_ _) | (with_reducible refine Pair.alloc ?_ _) | (with_reducible refine two1 ?_) | (with_reducible refine twoN ?_ _) | (with_reducible refine Pair.drew ?_) | (with_reducible refine Pair.drewN ?_ _) | (with_reducible refine Two.far ?_ ?_ _) | (with_reducible refine Pair.far ?_ ?_ _) | (simp; omega)))
      · refine ⟨_, rfl, by rw [H2.out]; exact sliceOf_nil _, ?_⟩
        (repeat' (first | (with_reducible assumption) | (with_reducible exact Below.refl _ _) | (with_reducible refine belowN ?_ _) | (with_reducible refine Below.alloc ?_ ?_ _) | (with_reducible refine Below.drew ?_) | (with_reducible refine Below.setCell ?_ ?_ _) | go_size))
  case pos =>
    obtain ⟨h1, h2, h3, h4⟩ := ckF_op ht
    obtain ⟨hv, hs⟩ := stF_val h2
    have hs24 : IsS s 24 := hs.mono (by have := hv.le; omega)
    rw [h1] at HC
    have HV := Lib.hid hv
    have HS24 := Lib.hid hs24
    have HSN := Lib.hid hs
    obtain ⟨k, rfl⟩ := Int.eq_ofNat_of_zero_le h3
    have hlt : k < x.ops.length := by omega
    have HO := Lib.hid (hv.ops k hlt).1
    have H0 := Lib.hid (show ayF x s k = if subB (opr x.ops k).pre s then (0, 0) else (11, (k : Int)) by unfold ayF opn; rw [if_neg (by simpa using ht)]; rfl)
    have H1 := Lib.hid (show ayL x s k = if subB (opr x.ops k).pre s then aftL x.n.toNat (opr x.ops k).add (opr x.ops k).del s else [] by
      unfold ayL; rw [H0.out]; cases subB (opr x.ops k).pre s <;> simp [opn])
    clear ht hv hs hs24 h1 h2
    go_enter Tryd.func46, Tryd.ntmps46
    go_wp2_with (go_at_call 36; (with_reducible refine HC.mono ?_); rintro e w1 ⟨rfl, hbw⟩; have hF := Lib.hid (hF0.out.to hbw); obtain ⟨_, ⟨_, t0, t1, t2, t3⟩, ⟨_, k0, k1, f0, f1⟩⟩ := hF.out)
    have hF2 := Lib.hid (hF.out.alloc (.cells #[.int .i64 0, .int .i64 0] 27))
    generalize hW : w1.alloc (.cells #[.int .i64 0, .int .i64 0] 27) = W at hF2 ⊢
    clear hW t0 t1 t2 t3 k0 k1 f0 f1
    obtain ⟨_, ⟨_, t0, t1, t2, t3⟩, ⟨_, k0, k1, f0, f1⟩⟩ := hF2.out
    obtain ⟨b, p, a1, a2', a3', c1, c2', c3', hao, hbl, ⟨q0, q1, q2, q3⟩, hOV⟩ := (HX.out _ hF2.out.below).ops.at_ hlt
    rw [hao] at t3
    have HW2 := Lib.hid (fun (V : World) (h : Below W.heap.size W V) => (⟨hF2.out.to h, hOV.to h h.size⟩ : Fr1 w V x 0 0 ∧ OpV V V.heap.size (opr x.ops k) a1 a2' a3' c1 c2' c3'))
    have hbw2 : w.heap.size < W.heap.size := by have := hF2.out.below.size; have := hF2.out.box.lt; omega
    have HSZ := Lib.hid hbw2
    have HBL := Lib.hid hbl
    clear hbw2 hbl hOV k0 k1 f0 f1
    have hWW := Below.refl W.heap.size W
    go_region_held3 (fun V => V.cell? ⟨w.heap.size, 3, none⟩ = some (.slice (some ⟨b, p, none⟩) x.ops.length x.co) ∧ V.cell? ⟨b, p + k * 4, none⟩ = some (.slice a1 (opr x.ops k).pre.length c1) ∧ V.cell? ⟨b, p + k * 4 + 1, none⟩ = some (.slice a2' (opr x.ops k).add.length c2') ∧ V.cell? ⟨b, p + k * 4 + 2, none⟩ = some (.slice a3' (opr x.ops k).del.length c3') ∧ V.cell? ⟨b, p + k * 4 + 3, none⟩ = some (.int .i64 (opr x.ops k).cost) ∧ Below W.heap.size W V)
      (first | (refine ⟨?_, ?_, ?_, ?_, ?_, ?_⟩ <;> assumption) | (exact ⟨t3, q0, q1, q2, q3, hWW.drew⟩) | (exact rd_step HSZ.out HBL.out (by assumption) (by assumption)))
      (first
        | (go_at_call 39; refine (setOf_any a2 c2 s _ HS24.out ?_).mono ?_; (exact (HS.out _ (HW2.out _ (rd_below (by assumption))).1.below).nums); rintro e w' ⟨rfl, rfl⟩)
        | (go_at_call 51; refine (after_any x.n.toNat HV.out.le (opr x.ops k) a1 a2' a3' c1 c2' c3' s _ HO.out HSN.out ?_).mono ?_; (exact (HW2.out _ (rd_below (by assumption))).2); rintro e w' ⟨rfl, hb⟩))
    all_goals
      have hh := HW2.out _ (rd_below (by assumption))
      have hF3 := Lib.hid hh.1
      clear hh
      have hbb : Below w.heap.size w w' := hF3.out.below
      have HBB := Lib.hid hbb
      clear hbb
      obtain ⟨_, _, ⟨_, k0, k1, f0, f1⟩⟩ := hF3.out
      cases hsub : subB (opr x.ops k).pre s
      · have HE := Lib.hid (show ayF x s k = (11, (k : Int)) by rw [H0.out, hsub]; rfl)
        have HL := Lib.hid (show ayL x s k = [] by rw [H1.out, hsub]; rfl)
        go_wp2
        refine post_with_fault (g := w.heap.size + 1) (x := .int .i64 11) (y := .int .i64 k) Tryd.results46 rfl (hF3.out.two.set _ _) ?_
        refine ⟨_, by rw [HE.out], ?_, (hF3.out.below.setCell (by simp) _).setCell (by simp) _⟩
        rw [HL.out]
        exact sliceOf_nil _
      · have HE := Lib.hid (show ayF x s k = (0, 0) by rw [H0.out, hsub]; rfl)
        have HL := Lib.hid (show ayL x s k = els (aftW x.n.toNat (opr x.ops k) s) by
          rw [H1.out, hsub, if_pos rfl, aftW, if_pos hsub, els_mask ((aftL_isS _ _ _ _).mono (by have := HV.out.le; omega))])
        have HM := Lib.hid (show aftW x.n.toNat (opr x.ops k) s < 18446744073709551616 by
          rw [aftW, if_pos hsub]; exact mask_lt64 ((aftL_isS _ _ _ _).mono (by have := HV.out.le; omega)))
        go_wp2_with (go_at_call 40; refine (list_any _ HM.out _ (HT.out _ HBB.out)).mono ?_; rintro e w5 ⟨v, rfl, hsl, hb5⟩; have hF4 := Lib.hid (hF3.out.to hb5); have HSL := Lib.hid hsl; clear hsl; obtain ⟨_, _, ⟨_, k0, k1, f0, f1⟩⟩ := hF4.out)
        refine post_with_fault (g := w.heap.size + 1) (x := .int .i64 0) (y := .int .i64 0) Tryd.results46 rfl (hF4.out.two.set _ _) ?_
        refine ⟨_, by rw [HE.out], ?_, (hF4.out.below.setCell (by simp) _).setCell (by simp) _⟩
        rw [HL.out]
        have hlt2 := hF3.out.two.lt
        exact sliceOf_own (ownsRow_setCell_below (ownsRow_setCell_below HSL.out (by simpa using hlt2) _) (by simpa using hlt2) _)
end Go.Proofs.YtkflidnclndpkaaDoor
