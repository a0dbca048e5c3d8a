/- Regress of package strips. -/
import Derived.Test.YtdgolaegbdadlaaDoorKay
namespace Go.Proofs.YtdgolaegbdadlaaDoor
open Go.RowKit
set_option linter.unusedSimpArgs false
set_option linter.unusedVariables false
set_option maxRecDepth 100000

theorem post_two_fault {fn : Func} {R : Ending → World → Prop} {tmps : Array Value} {W : World} {s t t2 : Tmp} {g : Nat} {x y : Value} (hres : fn.results = #[.tmp t, .tmp t2, .cell s 27]) (ht : tmps.getD s undef = .pointer (some ⟨g, 0, none⟩)) (hT : Two W g x y) (hR : R (.returned (.tuple #[tmps.getD t undef, tmps.getD t2 undef, .agg #[x, y]])) W) :
    bodyPost Tryd.prog fn R .ret { tmps := tmps, defers := [] } W := by
  refine bodyPost_ret (v := .tuple #[tmps.getD t undef, tmps.getD t2 undef, .agg #[x, y]]) ?_ rfl hR
  simp only [results, hres]
  rw [Array.getD_eq_getD_getElem?] at ht
  simp [go_sem, ht, hT.fst, hT.snd]

theorem Fr1.drewN {w W : World} {x : Tsk} {u v : Int} (h : Fr1 w W x u v) (n : Nat) : Fr1 w (W.drewN n) x u v :=
  ⟨belowN h.below n, ⟨h.box.lt, h.box.c0, h.box.c1, h.box.c2, h.box.c3⟩, twoN h.two n⟩

def reB (x : Tsk) (goal : List Int) (op : Int) : Bool := decide ((ckF x goal [op]).1 = 0) && disB goal (opn x op).del
def reL (x : Tsk) (goal : List Int) (op : Int) : List Int := if reB x goal op then regL x.n.toNat (opn x op).pre (opn x op).add goal else []
def RegPost (w : World) (f : Int × Int) (b : Bool) (xs : List Int) (e : Ending) (w' : World) : Prop := ∃ v, e = .returned (.tuple #[v, .bool b, faultV f]) ∧ SliceOf w' v xs ∧ Below w.heap.size w w'
theorem regL_isS (n : Nat) (pre add goal : List Int) : IsS (regL n pre add goal) n := facs_isS _ _
theorem reg_bits {n : Nat} (hn : n ≤ 24) {o : Opr} (ho : OpS o n) {s : List Int} (hs : IsS s n) :
    bits .or .u64 (mask o.pre : Int) (bits .andNot .u64 (mask s : Int) (mask o.add : Int)) = (mask (regL n o.pre o.add s) : Int) := by
  have h24 : ∀ {l : List Int}, IsS l n → IsS l 24 := fun h => h.mono (by omega)
  have h1 := mask_lt64 (h24 hs)
  rw [u64_andNot_nat _ _ h1 (mask_lt64 (h24 ho.add)), u64_or_nat _ _ (mask_lt64 (h24 ho.pre)) (Nat.lt_of_le_of_lt Nat.and_le_left h1), mask_reg hn ho.pre ho.add hs]

set_option maxHeartbeats 4000000 in
theorem regress_any (x : Tsk) (a2 : Option Addr) (c2 : Nat) (s : List Int) (op : Int) (w : World) (hX : TskIn w w.heap.size x) (hS : Lst w w.heap.size a2 c2 s) (hT : TabIn w) :
    Calls Tryd.prog 20 #[.agg #[.int .i64 x.n, .slice x.ai x.init.length x.ci, .slice x.ag x.goal.length x.cg, .slice x.ao x.ops.length x.co], .slice a2 s.length c2, .int .i64 op] w (RegPost w (ckF x s [op]) (reB x s op) (reL x s op)) := by
  have hB2 : Below w.heap.size w (((w.alloc (.cells #[.int .i64 x.n, .slice x.ai x.init.length x.ci, .slice x.ag x.goal.length x.cg, .slice x.ao x.ops.length x.co] 25)).alloc (.cells #[.int .i64 0, .int .i64 0] 27)).alloc (.cells #[.int .i64 op] 3)) := by go_grown
  have hon := one_new ((w.alloc (.cells #[.int .i64 x.n, .slice x.ai x.init.length x.ci, .slice x.ag x.goal.length x.cg, .slice x.ao x.ops.length x.co] 25)).alloc (.cells #[.int .i64 0, .int .i64 0] 27)) (.int .i64 op) 3
  simp only [World.size_alloc] at hon
  have HC := check_o x a2 c2 s op (w.heap.size + 1 + 1) _ (hX.to hB2 hB2.size) (hS.to hB2 hB2.size) hon.lt hon.fst
  clear hon
  have HX := Lib.hid (fun (W : World) (h : Below w.heap.size w W) => hX.to h h.size)
  have HS := Lib.hid (fun (W : World) (h : Below w.heap.size w W) => hS.to h h.size)
  have HT := Lib.hid (fun (W : World) (h : Below w.heap.size w W) => hT.to h (Nat.le_refl _))
  clear hX hS hB2 hT
  have hF0 := Lib.hid ((fr1_new w x 25 27).alloc (.cells #[.int .i64 op] 3))
  by_cases ht : (ckF x s [op]).1 = 0
  case neg =>
    have H1 := Lib.hid (show reB x s op = false by simp [reB, ht])
    have H2 := Lib.hid (show reL x s op = [] by simp [reL, reB, ht])
    have hne : ((ckF x s [op]).1 != 0) = true := by simpa using ht
    have hne2 : ((ckF x s [op]).1 == 0) = false := by simpa using ht
    clear ht
    go_enter Tryd.func20, Tryd.ntmps20
    go_wp2_with (go_at_call 38; (with_reducible refine HC.mono ?_); rintro e w1 ⟨rfl, hbw⟩; have hF := Lib.hid (hF0.out.to hbw); obtain ⟨_, ⟨_, t0, t1, t2, t3⟩, ⟨_, k0, k1, f0, f1⟩⟩ := hF.out)
    go_region
    all_goals
      go_wp2
      have htw := hF.out.two
      have hbe := hF.out.below
      refine post_two_fault (g := w.heap.size + 1) (x := .int .i64 (ckF x s [op]).1) (y := .int .i64 (ckF x s [op]).2) Tryd.results20 rfl ?_ ?_
      · (repeat' (first | (with_reducible assumption) | (with_reducible exact two_new _ _ _ _) | (with_reducible exact (two_new _ _ _ _).pair) | (with_reducible exact Two.pair ‹_›) | (with_reducible refine Pair.set ?_ _ _) | (with_reducible refine Two.alloc ?_ _) | (with_reducible refine Pair.alloc ?_ _) | (with_reducible refine two1 ?_) | (with_reducible refine twoN ?_ _) | (with_reducible refine Pair.drew ?_) | (with_reducible refine Pair.drewN ?_ _) | (with_reducible refine Two.far ?_ ?_ _) | (with_reducible refine Pair.far ?_ ?_ _) | (simp; omega)))
      · rw [H1.out, H2.out]
        refine ⟨_, rfl, sliceOf_nil _, ?_⟩
        (repeat' (first | (with_reducible assumption) | (with_reducible exact Below.refl _ _) | (with_reducible refine belowN ?_ _) | (with_reducible refine Below.alloc ?_ ?_ _) | (with_reducible refine Below.drew ?_) | (with_reducible refine Below.setCell ?_ ?_ _) | go_size))
  case pos =>
    obtain ⟨h1, h2, h3, h4⟩ := ckF_op ht
    obtain ⟨hv, hs⟩ := stF_val h2
    have hs24 : IsS s 24 := hs.mono (by have := hv.le; omega)
    rw [h1]
    rw [h1] at HC
    have HV := Lib.hid hv
    have HS24 := Lib.hid hs24
    have HSN := Lib.hid hs
    obtain ⟨k, rfl⟩ := Int.eq_ofNat_of_zero_le h3
    have hlt : k < x.ops.length := by omega
    have HO := Lib.hid (hv.ops k hlt).1
    have hd24 := (hv.ops k hlt).1.del.mono (m := 24) (by have := hv.le; omega)
    have HD24 := Lib.hid hd24
    have HA24 := Lib.hid ((hv.ops k hlt).1.add.mono (m := 24) (by have := hv.le; omega))
    have HP24 := Lib.hid ((hv.ops k hlt).1.pre.mono (m := 24) (by have := hv.le; omega))
    have hne := and_bits_ne hs24 hd24
    have H0 := Lib.hid (show reB x s k = disB s (opr x.ops k).del by simp [reB, ht, opn])
    have H1 := Lib.hid (show reL x s k = if disB s (opr x.ops k).del then regL x.n.toNat (opr x.ops k).pre (opr x.ops k).add s else [] by
      unfold reL; rw [H0.out]; rfl)
    have HBT := Lib.hid (reg_bits hv.le (hv.ops k hlt).1 hs)
    clear ht hv hs hs24 h1 h2 hd24
    go_enter Tryd.func20, Tryd.ntmps20
    go_wp2_with (go_at_call 38; (with_reducible refine HC.mono ?_); rintro e w1 ⟨rfl, hbw⟩; have hF := Lib.hid (hF0.out.to hbw); obtain ⟨_, ⟨_, t0, t1, t2, t3⟩, ⟨_, k0, k1, f0, f1⟩⟩ := hF.out)
    have hF2 := Lib.hid (hF.out.alloc (.cells #[.int .i64 0, .int .i64 0] 27))
    generalize hW : w1.alloc (.cells #[.int .i64 0, .int .i64 0] 27) = W at hF2 ⊢
    clear hW t0 t1 t2 t3 k0 k1 f0 f1
    obtain ⟨_, ⟨_, t0, t1, t2, t3⟩, ⟨_, k0, k1, f0, f1⟩⟩ := hF2.out
    obtain ⟨b, p, a1, a2', a3', c1, c2', c3', hao, hbl, ⟨q0, q1, q2, q3⟩, hOV⟩ := (HX.out _ hF2.out.below).ops.at_ hlt
    rw [hao] at t3
    have HW2 := Lib.hid (fun (V : World) (h : Below W.heap.size W V) => (⟨hF2.out.to h, hOV.to h h.size⟩ : Fr1 w V x 0 0 ∧ OpV V V.heap.size (opr x.ops k) a1 a2' a3' c1 c2' c3'))
    have hbw2 : w.heap.size < W.heap.size := by have := hF2.out.below.size; have := hF2.out.box.lt; omega
    have HSZ := Lib.hid hbw2
    have HBL := Lib.hid hbl
    clear hbw2 hbl hOV k0 k1 f0 f1
    have hWW := Below.refl W.heap.size W
    go_region_held3 (fun V => V.cell? ⟨w.heap.size, 3, none⟩ = some (.slice (some ⟨b, p, none⟩) x.ops.length x.co) ∧ V.cell? ⟨b, p + k * 4, none⟩ = some (.slice a1 (opr x.ops k).pre.length c1) ∧ V.cell? ⟨b, p + k * 4 + 1, none⟩ = some (.slice a2' (opr x.ops k).add.length c2') ∧ V.cell? ⟨b, p + k * 4 + 2, none⟩ = some (.slice a3' (opr x.ops k).del.length c3') ∧ V.cell? ⟨b, p + k * 4 + 3, none⟩ = some (.int .i64 (opr x.ops k).cost) ∧ Below W.heap.size W V)
      (first | (refine ⟨?_, ?_, ?_, ?_, ?_, ?_⟩ <;> assumption) | (exact ⟨t3, q0, q1, q2, q3, hWW.drew⟩) | (exact rd_step HSZ.out HBL.out ⟨t3, q0, q1, q2, q3, hWW⟩ ((Below.refl _ _).alloc (Nat.le_refl _) _).drew))
      (first
        | (go_at_call 39; refine (setOf_any a2 c2 s _ HS24.out ?_).mono ?_; (exact (HS.out _ (HW2.out _ (rd_below (by assumption))).1.below).nums); rintro e w' ⟨rfl, rfl⟩))
    all_goals
      rename_i hheld
      clear hheld
      have hbV : Below W.heap.size W (W.alloc (.cells #[.slice a1 (opr x.ops k).pre.length c1, .slice a2' (opr x.ops k).add.length c2', .slice a3' (opr x.ops k).del.length c3', .int .i64 (opr x.ops k).cost] 42)).drew := ((Below.refl _ _).alloc (Nat.le_refl _) _).drew
      have hh := HW2.out _ hbV
      have ob := obox_new W (opr x.ops k) a1 a2' a3' c1 c2' c3' 42
      have ob2 : OBox (W.alloc (.cells #[.slice a1 (opr x.ops k).pre.length c1, .slice a2' (opr x.ops k).add.length c2', .slice a3' (opr x.ops k).del.length c3', .int .i64 (opr x.ops k).cost] 42)).drew W.heap.size (opr x.ops k) a1 a2' a3' c1 c2' c3' := ⟨ob.lt, ob.c0, ob.c1, ob.c2, ob.c3⟩
      clear ob
      generalize (W.alloc (.cells #[.slice a1 (opr x.ops k).pre.length c1, .slice a2' (opr x.ops k).add.length c2', .slice a3' (opr x.ops k).del.length c3', .int .i64 (opr x.ops k).cost] 42)).drew = V at hbV hh ob2 ⊢
      have hF3 := Lib.hid hh.1
      have hOV3 := Lib.hid hh.2
      have hOB := Lib.hid ob2
      have HBV := Lib.hid hbV
      have hsz := hF2.out.two.lt
      have hg1 : w.heap.size + 1 ≠ W.heap.size := by omega
      clear hh ob2 hbV hWW t0 t1 t2 t3 q0 q1 q2 q3
      obtain ⟨_, _, ⟨_, k0, k1, f0, f1⟩⟩ := hF3.out
      obtain ⟨_, o0, o1, o2, o3⟩ := hOB.out
      cases hd : disB s (opr x.ops k).del
      · rw [hd] at hne
        have HE := Lib.hid (show reB x s k = false by rw [H0.out, hd])
        have HL := Lib.hid (show reL x s k = [] by rw [H1.out, hd]; rfl)
        go_wp2_with (go_at_call 39; refine (setOf_any a3' c3' (opr x.ops k).del _ HD24.out hOV3.out.del.nums).mono ?_; rintro e w' ⟨rfl, rfl⟩)
        refine post_two_fault (g := w.heap.size + 1) (x := .int .i64 0) (y := .int .i64 0) Tryd.results20 rfl (hF3.out.two.set _ _) ?_
        rw [HE.out, HL.out]
        exact ⟨_, rfl, sliceOf_nil _, (hF3.out.below.setCell (by simp) _).setCell (by simp) _⟩
      · rw [hd] at hne
        have HE := Lib.hid (show reB x s k = true by rw [H0.out, hd])
        have HL := Lib.hid (show reL x s k = els (mask (regL x.n.toNat (opr x.ops k).pre (opr x.ops k).add s)) by
          rw [H1.out, hd, if_pos rfl, els_mask ((regL_isS _ _ _ _).mono (by have := HV.out.le; omega))])
        have HM := Lib.hid (show mask (regL x.n.toNat (opr x.ops k).pre (opr x.ops k).add s) < 18446744073709551616 from mask_lt64 ((regL_isS _ _ _ _).mono (by have := HV.out.le; omega)))
        go_wp2_with (go_at_call 39; refine (setOf_any a3' c3' (opr x.ops k).del _ HD24.out hOV3.out.del.nums).mono ?_; rintro e w' ⟨rfl, rfl⟩)
        go_quiet (first
          | (go_at_call 39; (with_reducible refine quiet_same (setOf_any a1 c1 (opr x.ops k).pre _ HP24.out ?_)); exact hOV3.out.pre.nums)
          | (go_at_call 39; (with_reducible refine quiet_same (setOf_any a2' c2' (opr x.ops k).add _ HA24.out ?_)); exact hOV3.out.add.nums))
        rw [HBT.out]
        have hT9 := Lib.hid (HT.out _ (belowN hF3.out.below nq))
        go_wp2_with (go_at_call 42; refine (list_any _ HM.out _ hT9.out).mono ?_; rintro e w5 ⟨v, rfl, hsl, hb5⟩; have hF5 := Lib.hid ((hF3.out.drewN nq).to hb5); have HSL := Lib.hid hsl; clear hsl; obtain ⟨_, _, ⟨_, k0, k1, f0, f1⟩⟩ := hF5.out)
        refine post_two_fault (g := w.heap.size + 1) (x := .int .i64 0) (y := .int .i64 0) Tryd.results20 rfl (hF5.out.two.set _ _) ?_
        rw [HE.out, HL.out]
        refine ⟨_, rfl, ?_, (hF5.out.below.setCell (by simp) _).setCell (by simp) _⟩
        have hlt2 := hF3.out.two.lt
        exact sliceOf_own (ownsRow_setCell_below (ownsRow_setCell_below HSL.out (by simpa using hlt2) _) (by simpa using hlt2) _)
end Go.Proofs.YtdgolaegbdadlaaDoor
