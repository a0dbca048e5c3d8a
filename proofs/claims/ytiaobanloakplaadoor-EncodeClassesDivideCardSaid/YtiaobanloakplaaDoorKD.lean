/- Kay, Kre, Kco in one text. -/
import Derived.Test.YtiaobanloakplaaDoorKC
import Derived.Deep.RegionHeld3

/- Apply of package strips. -/
section
namespace Go.Proofs.YtiaobanloakplaaDoor
open Go.RowKit
set_option linter.unusedSimpArgs false
set_option linter.unusedVariables false
set_option maxRecDepth 100000

theorem lst_one {w : World} {g : Nat} {op : Int} (hg : g < w.heap.size) (h : w.cell? ⟨g, 0, none⟩ = some (.int .i64 op)) : Lst w w.heap.size (some ⟨g, 0, none⟩) 1 [op] :=
  ⟨fun _ => ⟨g, 0, rfl, hg, fun k hk => by
    have : k = 0 := by simp at hk; exact hk
    subst this
    exact h⟩, by simp, by simp [maxLen]⟩
theorem check_o (x : Tsk) (a2 : Option Addr) (c2 : Nat) (s : List Int) (op : Int) (g : Nat) (w : World) (hX : TskIn w w.heap.size x) (hS : Lst w w.heap.size a2 c2 s) (hg : g < w.heap.size) (h : w.cell? ⟨g, 0, none⟩ = some (.int .i64 op)) :
    Calls Tryd.prog 63 #[.agg #[.int .i64 x.n, .slice x.ai x.init.length x.ci, .slice x.ag x.goal.length x.cg, .slice x.ao x.ops.length x.co], .slice a2 s.length c2, .slice (some ⟨g, 0, none⟩) 1 1] w fun e w' => e = .returned (faultV (ckF x s [op])) ∧ Below w.heap.size w w' :=
  check_any x a2 (some ⟨g, 0, none⟩) c2 1 s [op] w hX hS (lst_one hg h)
/-- The operator with the number op. -/
def opn (x : Tsk) (op : Int) : Opr := opr x.ops op.toNat
theorem ckF_op {x : Tsk} {s : List Int} {op : Int} (h : (ckF x s [op]).1 = 0) : ckF x s [op] = (0, 0) ∧ (stF x s).1 = 0 ∧ 0 ≤ op ∧ op < x.ops.length := by
  obtain ⟨h1, h2, _, h3⟩ := ckF_zero h
  have : 0 ≤ ix [op] 0 ∧ ix [op] 0 < x.ops.length := planB_at h3 (k := 0) (Nat.zero_lt_one)
  exact ⟨h1, h2, this.1, this.2⟩
def ayF (x : Tsk) (s : List Int) (op : Int) : Int × Int := if (ckF x s [op]).1 ≠ 0 then ckF x s [op] else if subB (opn x op).pre s then (0, 0) else (11, op)
def ayL (x : Tsk) (s : List Int) (op : Int) : List Int := if (ayF x s op).1 = 0 then aftL x.n.toNat (opn x op).add (opn x op).del s else []

section
variable {W V V' : World} {g b q : Nat} {u0 u1 u2 u3 u4 : Value}
theorem rd_step (hg : g < W.heap.size) (hb : b < W.heap.size) (h : V.cell? ⟨g, 3, none⟩ = some u0 ∧ V.cell? ⟨b, q, none⟩ = some u1 ∧ V.cell? ⟨b, q + 1, none⟩ = some u2 ∧ V.cell? ⟨b, q + 2, none⟩ = some u3 ∧ V.cell? ⟨b, q + 3, none⟩ = some u4 ∧ Below W.heap.size W V) (h2 : Below V.heap.size V V') :
    V'.cell? ⟨g, 3, none⟩ = some u0 ∧ V'.cell? ⟨b, q, none⟩ = some u1 ∧ V'.cell? ⟨b, q + 1, none⟩ = some u2 ∧ V'.cell? ⟨b, q + 2, none⟩ = some u3 ∧ V'.cell? ⟨b, q + 3, none⟩ = some u4 ∧ Below W.heap.size W V' := by
  obtain ⟨h0, h1, hh2, h3, h4, h5⟩ := h
  have hz := h5.size
  exact ⟨(h2.cell (p := ⟨g, 3, none⟩) (by show g < _; omega)).trans h0, (h2.cell (p := ⟨b, q, none⟩) (by show b < _; omega)).trans h1, (h2.cell (p := ⟨b, q + 1, none⟩) (by show b < _; omega)).trans hh2,
    (h2.cell (p := ⟨b, q + 2, none⟩) (by show b < _; omega)).trans h3, (h2.cell (p := ⟨b, q + 3, none⟩) (by show b < _; omega)).trans h4, h5.trans (h2.mono hz)⟩
theorem rd_below (h : V.cell? ⟨g, 3, none⟩ = some u0 ∧ V.cell? ⟨b, q, none⟩ = some u1 ∧ V.cell? ⟨b, q + 1, none⟩ = some u2 ∧ V.cell? ⟨b, q + 2, none⟩ = some u3 ∧ V.cell? ⟨b, q + 3, none⟩ = some u4 ∧ Below W.heap.size W V) : Below W.heap.size W V := h.2.2.2.2.2
end

end Go.Proofs.YtiaobanloakplaaDoor
end

/- Regress of package strips. -/
section
namespace Go.Proofs.YtiaobanloakplaaDoor
open Go.RowKit
set_option linter.unusedSimpArgs false
set_option linter.unusedVariables false
set_option maxRecDepth 100000

theorem post_two_fault {fn : Func} {R : Ending → World → Prop} {tmps : Array Value} {W : World} {s t t2 : Tmp} {g : Nat} {x y : Value} (hres : fn.results = #[.tmp t, .tmp t2, .cell s 28]) (ht : tmps.getD s undef = .pointer (some ⟨g, 0, none⟩)) (hT : Two W g x y) (hR : R (.returned (.tuple #[tmps.getD t undef, tmps.getD t2 undef, .agg #[x, y]])) W) :
    bodyPost Tryd.prog fn R .ret { tmps := tmps, defers := [] } W := by
  refine bodyPost_ret (v := .tuple #[tmps.getD t undef, tmps.getD t2 undef, .agg #[x, y]]) ?_ rfl hR
  simp only [results, hres]
  rw [Array.getD_eq_getD_getElem?] at ht
  simp [go_sem, ht, hT.fst, hT.snd]

theorem Fr1.drewN {w W : World} {x : Tsk} {u v : Int} (h : Fr1 w W x u v) (n : Nat) : Fr1 w (W.drewN n) x u v :=
  ⟨belowN h.below n, ⟨h.box.lt, h.box.c0, h.box.c1, h.box.c2, h.box.c3⟩, twoN h.two n⟩

def reB (x : Tsk) (goal : List Int) (op : Int) : Bool := decide ((ckF x goal [op]).1 = 0) && disB goal (opn x op).del
def reL (x : Tsk) (goal : List Int) (op : Int) : List Int := if reB x goal op then regL x.n.toNat (opn x op).pre (opn x op).add goal else []
def RegPost (w : World) (f : Int × Int) (b : Bool) (xs : List Int) (e : Ending) (w' : World) : Prop := ∃ v, e = .returned (.tuple #[v, .bool b, faultV f]) ∧ SliceOf w' v xs ∧ Below w.heap.size w w'
theorem regL_isS (n : Nat) (pre add goal : List Int) : IsS (regL n pre add goal) n := facs_isS _ _
theorem reg_bits {n : Nat} (hn : n ≤ 24) {o : Opr} (ho : OpS o n) {s : List Int} (hs : IsS s n) :
    bits .or .u64 (mask o.pre : Int) (bits .andNot .u64 (mask s : Int) (mask o.add : Int)) = (mask (regL n o.pre o.add s) : Int) := by
  have h24 : ∀ {l : List Int}, IsS l n → IsS l 24 := fun h => h.mono (by omega)
  have h1 := mask_lt64 (h24 hs)
  rw [u64_andNot_nat _ _ h1 (mask_lt64 (h24 ho.add)), u64_or_nat _ _ (mask_lt64 (h24 ho.pre)) (Nat.lt_of_le_of_lt Nat.and_le_left h1), mask_reg hn ho.pre ho.add hs]

end Go.Proofs.YtiaobanloakplaaDoor
end

/- Cost of package strips; Applies, After and CostOf of the reference. -/
section
namespace Go.Proofs.YtiaobanloakplaaDoor
open Go.RowKit
set_option linter.unusedSimpArgs false
set_option linter.unusedVariables false
set_option maxRecDepth 100000

theorem own_mono {w : World} {base b2 : Nat} {e : TypeId} {size : Nat} {v : Value} {n : Nat} {xs : List Value} (h : w.ownsRow base e size v n xs) (hb : b2 ≤ base) : w.ownsRow b2 e size v n xs := by
  refine ⟨h.1, ?_⟩
  rcases h.2 with h | ⟨g, cap, cur, rfl, hg, rest⟩
  · exact .inl h
  · exact .inr ⟨g, cap, cur, rfl, by omega, rest⟩

/-- The cost of the first k steps. -/
def costTo (x : Tsk) (plan : List Int) : Nat → Int
  | 0 => 0
  | k + 1 => costTo x plan k + (opn x (ix plan k)).cost
def coM (x : Tsk) (plan : List Int) : Int := if (plF x plan).1 = 0 then costTo x plan plan.length else 0
theorem plF_val {x : Tsk} {plan : List Int} (h : (plF x plan).1 = 0) : Val x x.n.toNat ∧ plan.length ≤ 60 ∧ planB x.ops.length plan = true :=
  ⟨tkF_val (plF_zero h).2.1, (plF_zero h).2.2.1, (plF_zero h).2.2.2⟩
theorem costTo_bd {x : Tsk} {n : Nat} (hv : Val x n) {plan : List Int} (hp : planB x.ops.length plan = true) : ∀ k, k ≤ plan.length → 0 ≤ costTo x plan k ∧ costTo x plan k ≤ 100 * k
  | 0, _ => by simp [costTo]
  | k + 1, h => by
    have ih := costTo_bd hv hp k (by omega)
    have hk := planB_at hp (k := k) (by omega)
    have := hv.ops (ix plan k).toNat (by omega)
    simp only [costTo, opn]
    omega

set_option maxHeartbeats 4000000 in
theorem cost_any (x : Tsk) (a2 : Option Addr) (c2 : Nat) (plan : List Int) (w : World) (hX : TskIn w w.heap.size x) (hP : Lst w w.heap.size a2 c2 plan) :
    Calls Tryd.prog 26 #[.agg #[.int .i64 x.n, .slice x.ai x.init.length x.ci, .slice x.ag x.goal.length x.cg, .slice x.ao x.ops.length x.co], .slice a2 plan.length c2] w fun e w' => e = .returned (.tuple #[.int .i64 (coM x plan), faultV (plF x plan)]) ∧ Below w.heap.size w w' := by
  have hB2 : Below w.heap.size w ((w.alloc (.cells #[.int .i64 x.n, .slice x.ai x.init.length x.ci, .slice x.ag x.goal.length x.cg, .slice x.ao x.ops.length x.co] 25)).alloc (.cells #[.int .i64 0, .int .i64 0] 28)) := by go_grown
  have HC := check_p x a2 c2 plan _ (hX.to hB2 hB2.size) (hP.to hB2 hB2.size)
  have HX := Lib.hid (fun (W : World) (h : Below w.heap.size w W) => hX.to h h.size)
  have HP := Lib.hid (fun (W : World) (h : Below w.heap.size w W) => hP.to h h.size)
  clear hX hP hB2
  have hF0 := Lib.hid (fr1_new w x 25 28)
  by_cases ht : (plF x plan).1 = 0
  case neg =>
    have H := Lib.hid (show coM x plan = 0 by simp [coM, ht])
    have hne : ((plF x plan).1 != 0) = true := by simpa using ht
    have hne2 : ((plF x plan).1 == 0) = false := by simpa using ht
    clear ht
    go_enter Tryd.func26, Tryd.ntmps26
    go_wp2_with (go_at_call 63; (with_reducible refine HC.mono ?_); rintro e w1 ⟨rfl, hbw⟩; have hF := Lib.hid (hF0.out.to hbw); obtain ⟨_, ⟨_, t0, t1, t2, t3⟩, ⟨_, k0, k1, f0, f1⟩⟩ := hF.out)
    go_region
    all_goals
      go_wp2
      have htw := hF.out.two
      have hbe := hF.out.below
      refine post_with_fault (g := w.heap.size + 1) (x := .int .i64 (plF x plan).1) (y := .int .i64 (plF x plan).2) Tryd.results26 rfl ?_ ?_
      · (repeat' (first | (with_reducible assumption) | (with_reducible exact two_new _ _ _ _) | (with_reducible exact (two_new _ _ _ _).pair) | (with_reducible exact Two.pair ‹_›) | (with_reducible refine Pair.set ?_ _ _) | (with_reducible refine Two.alloc ?_ _) | (with_reducible refine Pair.alloc ?_ _) | (with_reducible refine two1 ?_) | (with_reducible refine twoN ?_ _) | (with_reducible refine Pair.drew ?_) | (with_reducible refine Pair.drewN ?_ _) | (with_reducible refine Two.far ?_ ?_ _) | (with_reducible refine Pair.far ?_ ?_ _) | (simp; omega)))
      · refine ⟨by rw [H.out]; rfl, ?_⟩
        (repeat' (first | (with_reducible assumption) | (with_reducible exact Below.refl _ _) | (with_reducible refine belowN ?_ _) | (with_reducible refine Below.alloc ?_ ?_ _) | (with_reducible refine Below.drew ?_) | (with_reducible refine Below.setCell ?_ ?_ _) | go_size))
  case pos =>
    obtain ⟨hv, h60, hpl⟩ := plF_val ht
    have H := Lib.hid (show coM x plan = costTo x plan plan.length by simp [coM, ht])
    have H0 := Lib.hid (plF_zero ht).1
    rw [(plF_zero ht).1] at HC
    have HV := Lib.hid hv
    have HPL := Lib.hid hpl
    clear ht hv hpl
    go_enter Tryd.func26, Tryd.ntmps26
    go_wp2_with (go_at_call 63; (with_reducible refine HC.mono ?_); rintro e w1 ⟨rfl, hbw⟩; have hF := Lib.hid (hF0.out.to hbw); obtain ⟨_, ⟨_, t0, t1, t2, t3⟩, ⟨_, k0, k1, f0, f1⟩⟩ := hF.out)
    have hF2 := Lib.hid (hF.out.alloc (.cells #[.int .i64 0, .int .i64 0] 28))
    have HP2 := Lib.hid (HP.out _ hF2.out.below)
    have HX2 := Lib.hid (HX.out _ hF2.out.below)
    go_loop [7, 19] (fun v i => ∃ k : Nat, k ≤ plan.length ∧ i = .int .i64 k ∧ v = .int .i64 (costTo x plan k)) (fun _ i => plan.length - (intOf i).toNat)
    case atStart => exact ⟨0, by omega, rfl, rfl⟩
    case round =>
      obtain ⟨k, hk, rfl, rfl⟩ := hrel
      obtain ⟨z0, z1⟩ := costTo_bd HV.out HPL.out k hk
      by_cases hlt : k < plan.length
      · obtain ⟨b, o, rfl, _, hc⟩ := HP2.out.nums.at_ hlt
        obtain ⟨g0, g1⟩ := planB_at HPL.out hlt
        have HS := Lib.hid (show costTo x plan (k + 1) = costTo x plan k + (opr x.ops (ix plan k).toNat).cost from rfl)
        have hcost := (HV.out.ops (ix plan k).toNat (by omega)).2.2
        obtain ⟨m, hm⟩ := Int.eq_ofNat_of_zero_le g0
        rw [hm, Int.toNat_natCast] at HS hcost
        rw [hm] at hc g0 g1
        have hlt2 : m < x.ops.length := by omega
        obtain ⟨b', p, a1, a2', a3', c1, c2', c3', hao, hbl, ⟨q0, q1, q2, q3⟩, hOV⟩ := HX2.out.ops.at_ hlt2
        clear hm hOV q0 q1 q2
        rw [hao] at t3
        clear hao
        obtain ⟨hcost0, hcost1⟩ := hcost
        go_wp2
        go_round
        case rel => exact ⟨k + 1, by omega, by go_num, by rw [HS.out]⟩
        case measure => simp [intOf]; omega
      · have hge : ¬ ((k : Int) < plan.length) := by omega
        obtain rfl : k = plan.length := by omega
        go_wp2
        have htw := hF.out.two
        have hbe := hF.out.below
        refine post_with_fault (g := w.heap.size + 1) (x := .int .i64 0) (y := .int .i64 0) Tryd.results26 rfl ?_ ?_
        · (repeat' (first | (with_reducible assumption) | (with_reducible exact two_new _ _ _ _) | (with_reducible exact (two_new _ _ _ _).pair) | (with_reducible exact Two.pair ‹_›) | (with_reducible refine Pair.set ?_ _ _) | (with_reducible refine Two.alloc ?_ _) | (with_reducible refine Pair.alloc ?_ _) | (with_reducible refine two1 ?_) | (with_reducible refine twoN ?_ _) | (with_reducible refine Pair.drew ?_) | (with_reducible refine Pair.drewN ?_ _) | (with_reducible refine Two.far ?_ ?_ _) | (with_reducible refine Pair.far ?_ ?_ _) | (simp; omega)))
        · refine ⟨by rw [H.out, H0.out]; rfl, ?_⟩
          (repeat' (first | (with_reducible assumption) | (with_reducible exact Below.refl _ _) | (with_reducible refine belowN ?_ _) | (with_reducible refine Below.alloc ?_ ?_ _) | (with_reducible refine Below.drew ?_) | (with_reducible refine Below.setCell ?_ ?_ _) | go_size))
end Go.Proofs.YtiaobanloakplaaDoor
end
