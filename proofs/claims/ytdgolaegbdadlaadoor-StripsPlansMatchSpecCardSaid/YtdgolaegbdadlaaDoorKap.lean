/- Applicable of package strips. -/
import Derived.Test.YtdgolaegbdadlaaDoorKcr
namespace Go.Proofs.YtdgolaegbdadlaaDoor
open Go.RowKit
set_option linter.unusedSimpArgs false
set_option linter.unusedVariables false
set_option maxRecDepth 100000

theorem spF_nil (m : Nat) : spF m [] = (0, 0) := by simp [spF, planB]
theorem ckF_s (x : Tsk) (s : List Int) : ckF x s [] = stF x s := by
  unfold ckF
  split
  · rfl
  · rename_i h
    rw [spF_nil, (stF_zero (x := x) (s := s) (by omega)).1]
theorem setB_nil (n : Int) : setB [] n = true := by simp [setB]
theorem ckF_p (x : Tsk) (plan : List Int) : ckF x [] plan = plF x plan := by
  unfold ckF plF stF
  rw [setB_nil]
  by_cases h : (tkF x).1 = 0 <;> simp [h]
theorem check_s (x : Tsk) (a2 : Option Addr) (c2 : Nat) (s : List Int) (w : World) (hX : TskIn w w.heap.size x) (hS : Lst w w.heap.size a2 c2 s) :
    Calls Tryd.prog 38 #[.agg #[.int .i64 x.n, .slice x.ai x.init.length x.ci, .slice x.ag x.goal.length x.cg, .slice x.ao x.ops.length x.co], .slice a2 s.length c2, .slice none 0 0] w fun e w' => e = .returned (faultV (stF x s)) ∧ Below w.heap.size w w' := by
  have h := check_any x a2 none c2 0 s [] w hX hS (lst_nil _ _)
  rw [ckF_s] at h
  exact h
theorem check_p (x : Tsk) (a3 : Option Addr) (c3 : Nat) (plan : List Int) (w : World) (hX : TskIn w w.heap.size x) (hP : Lst w w.heap.size a3 c3 plan) :
    Calls Tryd.prog 38 #[.agg #[.int .i64 x.n, .slice x.ai x.init.length x.ci, .slice x.ag x.goal.length x.cg, .slice x.ao x.ops.length x.co], .slice none 0 0, .slice a3 plan.length c3] w fun e w' => e = .returned (faultV (plF x plan)) ∧ Below w.heap.size w w' := by
  have h := check_any x none a3 0 c3 [] plan w hX (lst_nil _ _) hP
  rw [ckF_p] at h
  exact h

/-- A slice that holds xs and a fault come back; all below is kept. -/
def SlF (w : World) (f : Int × Int) (xs : List Int) (e : Ending) (w' : World) : Prop := ∃ v, e = .returned (.tuple #[v, faultV f]) ∧ SliceOf w' v xs ∧ Below w.heap.size w w'
theorem sliceOf_nil (w : World) : SliceOf w (.slice none 0 0) [] := ⟨none, 0, rfl, nums_nil _ _ _, by simp, by simp [maxLen]⟩
theorem SliceOf.to {w w' : World} {v : Value} {xs : List Int} (h : SliceOf w v xs) (hb : Below w.heap.size w w') : SliceOf w' v xs := by
  obtain ⟨a, c, rfl, hn, h1, h2⟩ := h
  exact ⟨a, c, rfl, hn.to hb hb.size, h1, h2⟩
theorem SliceOf.set {w : World} {v : Value} {xs : List Int} (h : SliceOf w v xs) : ∃ a c, v = .slice a xs.length c ∧ Lst w w.heap.size a c xs := by
  obtain ⟨a, c, rfl, hn, h1, h2⟩ := h
  exact ⟨a, c, rfl, hn, h1, h2⟩

def appM (x : Tsk) (s : List Int) : List Int := if (stF x s).1 = 0 then facs x.ops.length (fun k => subB (opr x.ops k).pre s) else []

theorem grown_fr1 {w W W' : World} {x : Tsk} {u v : Int} {row : Option Nat} (h : Fr1 w W x u v) (hg : W.grownBy W' row) (hr : ∀ q, row = some q → w.heap.size + 1 < q) : Fr1 w W' x u v := by
  have hb : Below (w.heap.size + 2) W W' := Below.grown (Below.refl _ _) hg (by have := h.two.lt; omega) (fun q hq => by have := hr q hq; omega)
  exact ⟨h.below.trans (hb.mono (by omega)), h.box.to hb (by omega), h.two.to hb (by omega)⟩

set_option maxHeartbeats 4000000 in
theorem applicable_any (x : Tsk) (a2 : Option Addr) (c2 : Nat) (s : List Int) (w : World) (hX : TskIn w w.heap.size x) (hS : Lst w w.heap.size a2 c2 s) :
    Calls Tryd.prog 13 #[.agg #[.int .i64 x.n, .slice x.ai x.init.length x.ci, .slice x.ag x.goal.length x.cg, .slice x.ao x.ops.length x.co], .slice a2 s.length c2] w (SlF w (stF x s) (appM x s)) := by
  have hB2 : Below w.heap.size w ((w.alloc (.cells #[.int .i64 x.n, .slice x.ai x.init.length x.ci, .slice x.ag x.goal.length x.cg, .slice x.ao x.ops.length x.co] 25)).alloc (.cells #[.int .i64 0, .int .i64 0] 27)) := by go_grown
  have HC := check_s x a2 c2 s _ (hX.to hB2 hB2.size) (hS.to hB2 hB2.size)
  have HX := Lib.hid (fun (W : World) (h : Below w.heap.size w W) => hX.to h h.size)
  have HS := Lib.hid (fun (W : World) (h : Below w.heap.size w W) => hS.to h h.size)
  clear hX hS hB2
  have hF0 := Lib.hid (fr1_new w x 25 27)
  by_cases ht : (stF x s).1 = 0
  case neg =>
    have H := Lib.hid (show appM x s = [] by simp [appM, ht])
    have hne : ((stF x s).1 != 0) = true := by simpa using ht
    have hne2 : ((stF x s).1 == 0) = false := by simpa using ht
    clear ht
    go_enter Tryd.func13, Tryd.ntmps13
    go_wp2_with (go_at_call 38; (with_reducible refine HC.mono ?_); rintro e w1 ⟨rfl, hbw⟩; have hF := Lib.hid (hF0.out.to hbw); obtain ⟨_, ⟨_, t0, t1, t2, t3⟩, ⟨_, k0, k1, f0, f1⟩⟩ := hF.out)
    go_region
    all_goals
      go_wp2
      have htw := hF.out.two
      have hbe := hF.out.below
      refine post_with_fault (g := w.heap.size + 1) (x := .int .i64 (stF x s).1) (y := .int .i64 (stF x s).2) Tryd.results13 rfl ?_ ?_
      · (repeat' (first | (with_reducible assumption) | (with_reducible exact two_new _ _ _ _) | (with_reducible exact (two_new _ _ _ _).pair) | (with_reducible exact Two.pair ‹_›) | (with_reducible refine Pair.set ?_ _ _) | (with_reducible refine Two.alloc ?_ _) | (with_reducible refine Pair.alloc ?_ _) | (with_reducible refine two1 ?_) | (with_reducible refine twoN ?_ _) | (with_reducible refine Pair.drew ?_) | (with_reducible refine Pair.drewN ?_ _) | (with_reducible refine Two.far ?_ ?_ _) | (with_reducible refine Pair.far ?_ ?_ _) | (simp; omega)))
      · refine ⟨_, rfl, by rw [H.out]; exact sliceOf_nil _, ?_⟩
        (repeat' (first | (with_reducible assumption) | (with_reducible exact Below.refl _ _) | (with_reducible refine belowN ?_ _) | (with_reducible refine Below.alloc ?_ ?_ _) | (with_reducible refine Below.drew ?_) | (with_reducible refine Below.setCell ?_ ?_ _) | go_size))
  case pos =>
    obtain ⟨hv, hs⟩ := stF_val ht
    have hs24 : IsS s 24 := hs.mono (by have := hv.le; omega)
    have hol := hv.len
    have H := Lib.hid (show appM x s = facs x.ops.length (fun k => subB (opr x.ops k).pre s) by simp [appM, ht])
    have H0 := Lib.hid (stF_zero ht).1
    rw [(stF_zero ht).1] at HC
    have HV := Lib.hid hv
    have HS24 := Lib.hid hs24
    clear ht hv hs hs24
    obtain ⟨i0, hi, hz0, hz1, hz2⟩ := info_parts info_int
    go_enter Tryd.func13, Tryd.ntmps13
    go_wp2_with (first
      | (go_at_call 38; (with_reducible refine HC.mono ?_); rintro e w1 ⟨rfl, hbw⟩; have hF := Lib.hid (hF0.out.to hbw); obtain ⟨_, ⟨_, t0, t1, t2, t3⟩, ⟨_, k0, k1, f0, f1⟩⟩ := hF.out; have hF2 := Lib.hid (hF.out.alloc (.cells #[.int .i64 0, .int .i64 0] 27)))
      | (go_at_call 39; (with_reducible refine (setOf_any a2 c2 s _ HS24.out (HS.out _ hF2.out.below).nums).mono ?_); rintro e w2 ⟨rfl, rfl⟩))
    go_loopw [7, 23] (fun v i wr => ∃ k : Nat, k ≤ x.ops.length ∧ i = .int .i64 k ∧ Fr1 w wr x 0 0 ∧ wr.ownsRow (w.heap.size + 1 + 1) 3 1 v (facs k (fun k => subB (opr x.ops k).pre s)).length ((facs k (fun k => subB (opr x.ops k).pre s)).map (Value.int .i64))) (fun _ i _ => x.ops.length - (intOf i).toNat)
    case atStart => exact ⟨0, by omega, rfl, hF2.out, World.ownsRow_nil _ _ _ _⟩
    case round =>
      obtain ⟨k, hk, rfl, hfr, hown⟩ := hrel
      have HF := Lib.hid hfr
      clear hfr
      have hz := HF.out.two.lt
      by_cases hlt : k < x.ops.length
      · obtain ⟨b, p, a1, a2', a3', c1, c2', c3', hao, hbl, ⟨q0, q1, q2, q3⟩, hOV⟩ := (HX.out _ HF.out.below).ops.at_ hlt
        have HP := Lib.hid ((HV.out.ops k hlt).1.pre.mono (m := 24) (by have := HV.out.le; omega))
        have HN := Lib.hid (setOf_any a1 c1 (opr x.ops k).pre (wr.alloc (.cells #[.slice a1 (opr x.ops k).pre.length c1, .slice a2' (opr x.ops k).add.length c2', .slice a3' (opr x.ops k).del.length c3', .int .i64 (opr x.ops k).cost] 42)) HP.out (hOV.to (B' := (wr.alloc (.cells #[.slice a1 (opr x.ops k).pre.length c1, .slice a2' (opr x.ops k).add.length c2', .slice a3' (opr x.ops k).del.length c3', .int .i64 (opr x.ops k).cost] 42)).heap.size) ((Below.refl _ _).alloc (Nat.le_refl _) _) (by simp)).pre.nums)
        have hlen := facs_len k (fun k => subB (opr x.ops k).pre s)
        clear hOV
        rw [hao]
        cases hsub : subB (opr x.ops k).pre s
        · have HQ := Lib.hid (facs_succ_no (n := k) (f := fun k => subB (opr x.ops k).pre s) hsub)
          go_wp2_with (first
            | (go_at_call 39; (with_reducible refine HN.out.mono ?_); rintro e w2 ⟨rfl, rfl⟩)
            | (go_at_call 40; refine (contains_any _ _ _ HS24.out HP.out).mono ?_; rintro e w2 ⟨rfl, rfl⟩))
          go_roundw
          case rel => exact ⟨k + 1, by omega, by go_num, HF.out.alloc _, by rw [HQ.out]; exact hown.alloc _⟩
          case measure => simp [intOf]; omega
        · have HQ := Lib.hid (facs_succ_yes (n := k) (f := fun k => subB (opr x.ops k).pre s) hsub)
          go_wp2_with (first
            | (go_at_call 39; (with_reducible refine HN.out.mono ?_); rintro e w2 ⟨rfl, rfl⟩)
            | (go_at_call 40; refine (contains_any _ _ _ HS24.out HP.out).mono ?_; rintro e w2 ⟨rfl, rfl⟩)
            | (at_builtin; refine wpList_append_own _ rfl _ _ 22 rfl (w.heap.size + 1 + 1) 3 i0 (.int .i64 0) 1 8 Tryd.underlying22 hi hz0 hz1 hz2 rfl (by decide) _ _ _ rfl ((hown.alloc _).alloc _) ⟨wr.heap.size + 1, 0, none⟩ 1 1 [.int .i64 k] rfl rfl ?c1 ?c2 ?c3 ?c4 ?c5 ?_))
          case c1 => have hc1 := cell_one_new (wr.alloc (.cells #[.slice a1 (opr x.ops k).pre.length c1, .slice a2' (opr x.ops k).add.length c2', .slice a3' (opr x.ops k).del.length c3', .int .i64 (opr x.ops k).cost] 42)) (.int .i64 k) 3; rw [World.size_alloc] at hc1; exact hc1
          case c2 => simp [Value.oneCell']
          case c3 => unfold maxLen; omega
          case c4 => omega
          case c5 => simp; omega
          intro v' w6 hown6 hgrow _
          have HG := Lib.hid hgrow
          clear hgrow
          go_wp2
          go_roundw
          case rel =>
            refine ⟨k + 1, by omega, by go_num, ?_, ?_⟩
            · exact grown_fr1 ((HF.out.alloc _).alloc _) HG.out (fun q hq => by have := (hown.lt q hq).1; omega)
            · rw [HQ.out]; simpa using hown6
          case measure => simp [intOf]; omega
      · obtain ⟨_, _, ⟨_, k0, k1, f0, f1⟩⟩ := HF.out
        have hge : ¬ ((k : Int) < x.ops.length) := by omega
        obtain rfl : k = x.ops.length := by omega
        go_wp2
        refine post_with_fault (g := w.heap.size + 1) (x := .int .i64 0) (y := .int .i64 0) Tryd.results13 rfl (HF.out.two.set _ _) ?_
        refine ⟨_, by rw [H0.out], ?_, (HF.out.below.setCell (by simp) _).setCell (by simp) _⟩
        rw [H.out]
        exact sliceOf_own (ownsRow_setCell_below (ownsRow_setCell_below hown (by simp) _) (by simp) _)
end Go.Proofs.YtdgolaegbdadlaaDoor
