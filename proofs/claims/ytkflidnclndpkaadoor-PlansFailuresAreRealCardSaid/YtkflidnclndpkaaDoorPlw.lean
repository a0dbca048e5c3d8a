/- The law PlansMinimalStayWhole: the walk. -/
import Derived.Test.YtkflidnclndpkaaDoorPlf
import Derived.Deep.CutRange
import Derived.Deep.RegionHeld3
import Derived.Deep.AppendLies
namespace Go.Proofs.YtkflidnclndpkaaDoor
open Go.RowKit
set_option linter.unusedSimpArgs false
set_option linter.unusedVariables false
set_option maxRecDepth 100000

/-- An append at a step of a region that draws its order: nothing may be appended, too. -/
theorem step_append_all {P : Program} {ops : Array Oper} {o : Oper} {a : Act} {w : World} {K : Act → World → Prop} {Q : Exit → Act → World → Prop} {E : Prop} (hgd : o.guard = none) (s x : Operand) (t : TypeId)
    (ho : o.op = .call { callee := .builtin .append, args := #[s, x], argTypes := #[t, t] })
    (base : Nat) (e : TypeId) (i : TypeInfo) (z : Value) (size bytes : Nat) (ht : P.underlying t = some (.slice e)) (hi : P.info? e = some i) (hz : i.zero = some z)
    (hsize : i.size = size) (hby : i.bytes = bytes) (hzs : z.cells.size = size) (hsz : 0 < size)
    (v : Value) (n : Nat) (xs : List Value) (hs : a.eval s = v) (hown : w.ownsRow base e size v n xs)
    (ad : Addr) (m c : Nat) (news : List Value) (hx : a.eval x = .slice (some ad) m c) (hl : news.length = m * size) (hnews : ∀ j u, news[j]? = some u → w.cell? (ad.add j) = some u) (h1 : ∀ u ∈ news, u.oneCell' = true)
    (h63 : n + m ≤ maxLen) (hbytes : (n + m) * bytes ≤ 140737488355328) (hbase : base ≤ w.heap.size)
    (h : ∀ v' w', w'.ownsRow base e size v' (n + m) (xs ++ news) → w.grownBy w' v.ownBlock → K (a.put o.dst v') w') :
    if Region.wanted o (yielded ops a.tmps) = true then Oper.wp P o a w K Q else E := by
  have hw : Region.wanted o (yielded ops a.tmps) = true := by simp [Region.wanted, hgd]
  rw [if_pos hw]
  obtain ⟨v', w', hr, h2, h3, _, h5⟩ := run_append_own_at (P := P) w base t o.type e i z size bytes ht hi hz hsize hby hzs hsz v n xs hown ad m c news hl hnews h1 h63 hbytes hbase
  unfold Oper.wp execOp
  simp only [ho, resolve, invoke, builtin, Sem.run_bind, Sem.run_pure, Result.andThen_ok, List.map_toArray, List.map_cons, List.map_nil, hs, hx, hr]
  exact h v' w' h2 h3
theorem two_grown {V V' : World} {g : Nat} {u v : Value} {row : Option Nat} (h : Two V g u v) (hg : V.grownBy V' row) (hne : some g ≠ row) : Two V' g u v := by
  have e := hg.block g h.lt hne
  exact ⟨Nat.lt_of_lt_of_le h.lt hg.size, (World.cell?_of_block (a := ⟨g, 0, none⟩) e).trans h.fst, (World.cell?_of_block (a := ⟨g, 1, none⟩) e).trans h.snd, (World.frozen?_of_block (a := ⟨g, 0, none⟩) e).trans h.ffst, (World.frozen?_of_block (a := ⟨g, 1, none⟩) e).trans h.fsnd⟩
theorem lst_al {W : World} {o : Obj} {a : Option Addr} {c : Nat} {l : List Int} (h : Lst W W.heap.size a c l) : Lst (W.alloc o) (W.alloc o).heap.size a c l :=
  h.to ((Below.refl _ _).alloc (Nat.le_refl _) o) ((Below.refl W.heap.size W).alloc (Nat.le_refl _) o).size
theorem have_gr {G : Prop} {V V' : World} {g : Nat} {u v : Value} {row : Option Nat} (hg : V.grownBy V' row) (h : Two V g u v) (hne : some g ≠ row) (k : Two V' g u v → G) : G := k (two_grown h hg hne)
theorem news_drop {W : World} {B b o c k : Nat} {l : List Int} (h : Lst W B (some ⟨b, o, none⟩) c l) : ∀ j u, ((l.drop (k + 1)).map (Value.int .i64))[j]? = some u → W.cell? ((⟨b, o + (k + 1), none⟩ : Addr).add j) = some u := by
  intro j u hj
  rw [List.getElem?_map, List.getElem?_drop] at hj
  cases hq : l[k + 1 + j]? with
  | none => rw [hq] at hj; cases hj
  | some z =>
    rw [hq] at hj
    have hz : Value.int .i64 z = u := by simpa using hj
    have hlt : k + 1 + j < l.length := (List.getElem?_eq_some_iff.1 hq).1
    obtain ⟨b', o', e, _, hc⟩ := h.nums (by omega)
    cases e
    have h1 := hc (k + 1 + j) hlt
    rw [show (⟨b, o + (k + 1), none⟩ : Addr).add j = ⟨b, o + (k + 1 + j), none⟩ from by unfold Addr.add; split <;> simp_all <;> omega, h1, ← hz]
    have := (List.getElem?_eq_some_iff.1 hq).2
    simp [ix, List.getD, hq]
theorem own_cat {W : World} {base n m : Nat} {v : Value} {l1 l2 : List Int} (h : W.ownsRow base 3 1 v (n + m) (l1.map (Value.int .i64) ++ l2.map (Value.int .i64))) : ∃ a c N, v = .slice a N c ∧ N = (l1 ++ l2).length ∧ Lst W W.heap.size a c (l1 ++ l2) := by
  have hl : n + m = (l1 ++ l2).length := by have := h.1; simpa using this.symm
  rw [hl, ← List.map_append] at h
  obtain ⟨a, c, e, h1, _⟩ := own_lst h
  exact ⟨a, c, _, e, rfl, h1⟩
set_option maxHeartbeats 8000000 in
theorem whole_any (hFl : FlC) (hRd : RdC) (hMn : MnC) (x : Tsk) (a3 : Option Addr) (c3 : Nat) (plan : List Int) (i : Int) (w : World) (hX : TskIn w w.heap.size x) (hL : Lst w w.heap.size a3 c3 plan) (hA : a3 = none → c3 = 0) (hT : TabIn w) :
    Calls Tryd.prog 6 #[.agg #[.int .i64 x.n, .slice x.ai x.init.length x.ci, .slice x.ag x.goal.length x.cg, .slice x.ao x.ops.length x.co], .slice a3 plan.length c3, .int .i64 i] w fun e w' => e = .returned (.bool true) ∧ Below w.heap.size w w' := by
  have hcap := hL.le
  have hmax := hL.max
  unfold maxLen at hmax
  have hP := Lib.hid (Alive.cons (boxS w.heap.size x) (tbox_new w x 25) ((Alive.cons (tskS x) hX (Alive.cons (lstS a3 c3 plan) hL (Alive.cons tabS hT (Alive.cons (belS w) (Below.refl _ w) (Alive.nil w))))).to ((Below.refl _ _).alloc (Nat.le_refl _) (.cells #[.int .i64 x.n, .slice x.ai x.init.length x.ci, .slice x.ag x.goal.length x.cg, .slice x.ao x.ops.length x.co] 25))))
  have HMn := Lib.hid (fun (W : World) (hX : TskIn W W.heap.size x) (hL : Lst W W.heap.size a3 c3 plan) (hT : TabIn W) => hMn x a3 c3 plan W hX hL hA hT)
  have HRd := Lib.hid (fun (W : World) (hX : TskIn W W.heap.size x) (hL : Lst W W.heap.size a3 c3 plan) (hT : TabIn W) => hRd x a3 c3 plan W hX hL hA hT)
  clear hX hL hT
  cases hb : mnB x plan
  case false =>
    rw [hb] at HMn
    clear hb
    by_cases hm : ((mnF x plan).1) = 0
    case neg =>
      have q2 : ((mnF x plan).1 != 0) = true := by simpa using hm
      clear hm
      go_enter Tryd.func6, Tryd.ntmps6
      go_wp2_with (first | (go_at_call 17; have hTk := Lib.hid (show TskIn _ _ x from hP.out (tskS x) (by simp)); have hLp := Lib.hid (show Lst _ _ a3 c3 plan from hP.out (lstS a3 c3 plan) (by simp)); have hTb := Lib.hid (show TabIn _ from hP.out tabS (by simp)); (with_reducible refine (HMn.out _ hTk.out hLp.out hTb.out).mono ?_); rintro e wM ⟨rfl, hb⟩; have hP := Lib.hid (Alive.cons (twoS wM.heap.size (.int .i64 (mnF x plan).1) (.int .i64 (mnF x plan).2)) (two_new wM _ _ 27) ((hP.out.to hb).to ((Below.refl _ _).alloc (Nat.le_refl _) _))); clear hb; obtain ⟨_, t0, t1, t2, t3⟩ := (show TBox _ _ x from hP.out (boxS w.heap.size x) (by simp)); obtain ⟨_, k0, k1, f0, f1⟩ := (show Two _ wM.heap.size _ _ from hP.out (twoS wM.heap.size (.int .i64 (mnF x plan).1) (.int .i64 (mnF x plan).2)) (by simp))) | (go_at_call 10; have hTb := Lib.hid (show TabIn _ from hP.out tabS (by simp)); (with_reducible refine (shortens_any hFl hRd hMn _ hTb.out).mono ?_); rintro e wH ⟨rfl, hb⟩; have hP := Lib.hid (hP.out.to hb); clear hb; obtain ⟨_, t0, t1, t2, t3⟩ := (show TBox _ _ x from hP.out (boxS w.heap.size x) (by simp)); obtain ⟨_, k0, k1, f0, f1⟩ := (show Two _ wM.heap.size _ _ from hP.out (twoS wM.heap.size (.int .i64 (mnF x plan).1) (.int .i64 (mnF x plan).2)) (by simp))))
      go_ret
      exact ⟨rfl, hP.out (belS w) (by simp)⟩
    case pos =>
      have q2 : ((mnF x plan).1 != 0) = false := by simpa using hm
      clear hm
      go_enter Tryd.func6, Tryd.ntmps6
      go_wp2_with (first | (go_at_call 17; have hTk := Lib.hid (show TskIn _ _ x from hP.out (tskS x) (by simp)); have hLp := Lib.hid (show Lst _ _ a3 c3 plan from hP.out (lstS a3 c3 plan) (by simp)); have hTb := Lib.hid (show TabIn _ from hP.out tabS (by simp)); (with_reducible refine (HMn.out _ hTk.out hLp.out hTb.out).mono ?_); rintro e wM ⟨rfl, hb⟩; have hP := Lib.hid (Alive.cons (twoS wM.heap.size (.int .i64 (mnF x plan).1) (.int .i64 (mnF x plan).2)) (two_new wM _ _ 27) ((hP.out.to hb).to ((Below.refl _ _).alloc (Nat.le_refl _) _))); clear hb; obtain ⟨_, t0, t1, t2, t3⟩ := (show TBox _ _ x from hP.out (boxS w.heap.size x) (by simp)); obtain ⟨_, k0, k1, f0, f1⟩ := (show Two _ wM.heap.size _ _ from hP.out (twoS wM.heap.size (.int .i64 (mnF x plan).1) (.int .i64 (mnF x plan).2)) (by simp))) | (go_at_call 10; have hTb := Lib.hid (show TabIn _ from hP.out tabS (by simp)); (with_reducible refine (shortens_any hFl hRd hMn _ hTb.out).mono ?_); rintro e wH ⟨rfl, hb⟩; have hP := Lib.hid (hP.out.to hb); clear hb; obtain ⟨_, t0, t1, t2, t3⟩ := (show TBox _ _ x from hP.out (boxS w.heap.size x) (by simp)); obtain ⟨_, k0, k1, f0, f1⟩ := (show Two _ wM.heap.size _ _ from hP.out (twoS wM.heap.size (.int .i64 (mnF x plan).1) (.int .i64 (mnF x plan).2)) (by simp))))
      go_ret
      exact ⟨rfl, hP.out (belS w) (by simp)⟩
  case true =>
    rw [hb] at HMn
    have hb2 := hb
    unfold mnB at hb2
    rw [Bool.and_eq_true, decide_eq_true_eq] at hb2
    obtain ⟨hm0, hmin⟩ := hb2
    obtain ⟨em, hs0, h12⟩ := mnF_zero hm0
    obtain ⟨es, hpf, hsv⟩ := soF_zero hs0
    have hv := plF_val hpf
    have eR : rdL x plan = plan := by unfold rdL redL; rw [if_pos hs0, red_min hmin]
    rw [em] at HMn
    rw [es, eR] at HRd
    have HLN := Lib.hid hv.2.1
    cases hin : inB i 0 ((plan.length : Int) - 1)
    case false =>
      have hwl : IntKind.i64.wrap ((plan.length : Int) - 1) = (plan.length : Int) - 1 := IntWalk.i64_in _ (by omega)
      clear hb hm0 hmin em hs0 h12 es hpf hsv hv eR
      go_enter Tryd.func6, Tryd.ntmps6
      go_wp2_with (first | (go_at_call 17; have hTk := Lib.hid (show TskIn _ _ x from hP.out (tskS x) (by simp)); have hLp := Lib.hid (show Lst _ _ a3 c3 plan from hP.out (lstS a3 c3 plan) (by simp)); have hTb := Lib.hid (show TabIn _ from hP.out tabS (by simp)); (with_reducible refine (HMn.out _ hTk.out hLp.out hTb.out).mono ?_); rintro e wM ⟨rfl, hb⟩; have hP := Lib.hid (Alive.cons (twoS wM.heap.size (.int .i64 0) (.int .i64 0)) (two_new wM _ _ 27) ((hP.out.to hb).to ((Below.refl _ _).alloc (Nat.le_refl _) _))); clear hb; obtain ⟨_, t0, t1, t2, t3⟩ := (show TBox _ _ x from hP.out (boxS w.heap.size x) (by simp)); obtain ⟨_, k0, k1, f0, f1⟩ := (show Two _ wM.heap.size _ _ from hP.out (twoS wM.heap.size (.int .i64 0) (.int .i64 0)) (by simp))) | (go_at_call 10; have hTb := Lib.hid (show TabIn _ from hP.out tabS (by simp)); (with_reducible refine (shortens_any hFl hRd hMn _ hTb.out).mono ?_); rintro e wH ⟨rfl, hb⟩; have hP := Lib.hid (hP.out.to hb); clear hb; obtain ⟨_, t0, t1, t2, t3⟩ := (show TBox _ _ x from hP.out (boxS w.heap.size x) (by simp)); obtain ⟨_, k0, k1, f0, f1⟩ := (show Two _ wM.heap.size _ _ from hP.out (twoS wM.heap.size (.int .i64 0) (.int .i64 0)) (by simp))) | (go_at_call 13; have hTk := Lib.hid (show TskIn _ _ x from hP.out (tskS x) (by simp)); have hLp := Lib.hid (show Lst _ _ a3 c3 plan from hP.out (lstS a3 c3 plan) (by simp)); have hTb := Lib.hid (show TabIn _ from hP.out tabS (by simp)); (with_reducible refine (HRd.out _ hTk.out hLp.out hTb.out).mono ?_); rintro e wR ⟨aR, cR, rfl, hl, _, hb⟩; have hP := Lib.hid (Alive.cons (twoS wR.heap.size (.int .i64 0) (.int .i64 0)) (two_new wR _ _ 27) ((Alive.cons (lstS aR cR plan) hl (hP.out.to hb)).to ((Below.refl _ _).alloc (Nat.le_refl _) _))); clear hl hb; obtain ⟨_, t0, t1, t2, t3⟩ := (show TBox _ _ x from hP.out (boxS w.heap.size x) (by simp)); obtain ⟨_, l0, l1, g0, g1⟩ := (show Two _ wR.heap.size _ _ from hP.out (twoS wR.heap.size (.int .i64 0) (.int .i64 0)) (by simp))) | (go_at_call 14; have hLp := Lib.hid (show Lst _ _ a3 c3 plan from hP.out (lstS a3 c3 plan) (by simp)); have hLr := Lib.hid (show Lst _ _ aR cR plan from hP.out (lstS aR cR plan) (by simp)); (with_reducible refine (ints_same aR a3 cR c3 plan plan rfl _ hLr.out hLp.out).mono ?_); rintro e wI ⟨rfl, hb⟩; have hP := Lib.hid (hP.out.to hb); clear hb; obtain ⟨_, t0, t1, t2, t3⟩ := (show TBox _ _ x from hP.out (boxS w.heap.size x) (by simp))) | (go_at_call 22; refine (in_any _ _ _ _).mono ?_; rintro e w7 ⟨rfl, rfl⟩))
      go_ret
      exact ⟨rfl, hP.out (belS w) (by simp)⟩
    case true =>
      have hwl : IntKind.i64.wrap ((plan.length : Int) - 1) = (plan.length : Int) - 1 := IntWalk.i64_in _ (by omega)
      have hin2 := of_decide_eq_true (show decide (0 ≤ i ∧ i ≤ (plan.length : Int) - 1) = true from hin)
      obtain ⟨k, rfl⟩ := Int.eq_ofNat_of_zero_le hin2.1
      have hk : k < plan.length := by omega
      obtain ⟨b, o, ha3, _, _⟩ := (show Lst _ _ a3 c3 plan from hP.out (lstS a3 c3 plan) (by simp)).nums.at_ hk
      have HAE := Lib.hid ha3
      clear ha3
      have hcut := cut_len hk
      have hsub := cut_sub plan k
      have hpl := plF_sub hpf hsub
      have hno := min_no hmin hsub (by omega)
      have HSv := Lib.hid (fun (a : Option Addr) (c : Nat) (W : World) (hX : TskIn W W.heap.size x) (hL : Lst W W.heap.size a c (plan.take k ++ plan.drop (k + 1))) => ssolves_any x a c (plan.take k ++ plan.drop (k + 1)) W hX hL)
      rw [svB_of (by rw [hpl]), hno, hpl] at HSv
      have HSv := Lib.hid (fun (a : Option Addr) (c N : Nat) (W : World) (hN : N = ((plan.take k ++ plan.drop (k + 1))).length) (hX : TskIn W W.heap.size x) (hL : Lst W W.heap.size a c (plan.take k ++ plan.drop (k + 1))) => show Calls Tryd.prog 19 #[.agg #[.int .i64 x.n, .slice x.ai x.init.length x.ci, .slice x.ag x.goal.length x.cg, .slice x.ao x.ops.length x.co], .slice a N c] W (fun e w' => e = .returned (.tuple #[.bool false, faultV (0, 0)]) ∧ Below W.heap.size W w') from hN ▸ HSv.out a c W hX hL)
      have HCp := Lib.hid (fun (V : World) (h : Lst V V.heap.size a3 c3 plan) => copy_any a3 c3 (plan.take k) V (lst_take h (by omega)) hA (by rw [take_len (by omega)]; omega))
      rw [take_len (by omega : k ≤ plan.length)] at HCp
      have HTL := Lib.hid (take_len (by omega : k ≤ plan.length))
      have hkc : (k : Int) ≤ c3 := by omega
      have hk0 : (0 : Int) ≤ (k : Int) := by omega
      have hkn : ((k : Int)).toNat = k := by omega
      have hwk : IntKind.i64.wrap ((k : Int) + 1) = (k : Int) + 1 := IntWalk.i64_in _ (by omega)
      have hk1 : (k : Int) + 1 ≤ plan.length := by omega
      have hk2 : (0 : Int) ≤ (k : Int) + 1 := by omega
      have hkm : ((k : Int) + 1).toNat = k + 1 := by omega
      have hk3 : (plan.length : Int) ≤ c3 := by omega
      clear hb hm0 hmin em hs0 h12 es hpf hsv hv eR hin2 hcut hsub hpl hno
      obtain ⟨i0, hi0, hz0, hz1, hz2⟩ := info_parts info_int
      by_cases hq : c3 = k + 1
      case pos =>
        have HND := Lib.hid (fun (W : World) (ad : Addr) (j : Nat) (u : Value) (hj : ((plan.drop (k + 1)).map (Value.int .i64))[j]? = some u) => show W.cell? (ad.add j) = some u by
          rw [List.drop_eq_nil_of_le (by omega)] at hj
          simp at hj)
        have HQ := Lib.hid hq
        clear hq
        go_enter Tryd.func6, Tryd.ntmps6
        go_upto_region 9 with (first | (go_at_call 17; have hTk := Lib.hid (show TskIn _ _ x from hP.out (tskS x) (by simp)); have hLp := Lib.hid (show Lst _ _ a3 c3 plan from hP.out (lstS a3 c3 plan) (by simp)); have hTb := Lib.hid (show TabIn _ from hP.out tabS (by simp)); (with_reducible refine (HMn.out _ hTk.out hLp.out hTb.out).mono ?_); rintro e wM ⟨rfl, hb⟩; have hP := Lib.hid (Alive.cons (twoS wM.heap.size (.int .i64 0) (.int .i64 0)) (two_new wM _ _ 27) ((hP.out.to hb).to ((Below.refl _ _).alloc (Nat.le_refl _) _))); clear hb; obtain ⟨_, t0, t1, t2, t3⟩ := (show TBox _ _ x from hP.out (boxS w.heap.size x) (by simp)); obtain ⟨_, k0, k1, f0, f1⟩ := (show Two _ wM.heap.size _ _ from hP.out (twoS wM.heap.size (.int .i64 0) (.int .i64 0)) (by simp))) | (go_at_call 10; have hTb := Lib.hid (show TabIn _ from hP.out tabS (by simp)); (with_reducible refine (shortens_any hFl hRd hMn _ hTb.out).mono ?_); rintro e wH ⟨rfl, hb⟩; have hP := Lib.hid (hP.out.to hb); clear hb; obtain ⟨_, t0, t1, t2, t3⟩ := (show TBox _ _ x from hP.out (boxS w.heap.size x) (by simp)); obtain ⟨_, k0, k1, f0, f1⟩ := (show Two _ wM.heap.size _ _ from hP.out (twoS wM.heap.size (.int .i64 0) (.int .i64 0)) (by simp))) | (go_at_call 13; have hTk := Lib.hid (show TskIn _ _ x from hP.out (tskS x) (by simp)); have hLp := Lib.hid (show Lst _ _ a3 c3 plan from hP.out (lstS a3 c3 plan) (by simp)); have hTb := Lib.hid (show TabIn _ from hP.out tabS (by simp)); (with_reducible refine (HRd.out _ hTk.out hLp.out hTb.out).mono ?_); rintro e wR ⟨aR, cR, rfl, hl, _, hb⟩; have hP := Lib.hid (Alive.cons (twoS wR.heap.size (.int .i64 0) (.int .i64 0)) (two_new wR _ _ 27) ((Alive.cons (lstS aR cR plan) hl (hP.out.to hb)).to ((Below.refl _ _).alloc (Nat.le_refl _) _))); clear hl hb; obtain ⟨_, t0, t1, t2, t3⟩ := (show TBox _ _ x from hP.out (boxS w.heap.size x) (by simp)); obtain ⟨_, l0, l1, g0, g1⟩ := (show Two _ wR.heap.size _ _ from hP.out (twoS wR.heap.size (.int .i64 0) (.int .i64 0)) (by simp))) | (go_at_call 14; have hLp := Lib.hid (show Lst _ _ a3 c3 plan from hP.out (lstS a3 c3 plan) (by simp)); have hLr := Lib.hid (show Lst _ _ aR cR plan from hP.out (lstS aR cR plan) (by simp)); (with_reducible refine (ints_same aR a3 cR c3 plan plan rfl _ hLr.out hLp.out).mono ?_); rintro e wI ⟨rfl, hb⟩; have hP := Lib.hid (hP.out.to hb); clear hb; obtain ⟨_, t0, t1, t2, t3⟩ := (show TBox _ _ x from hP.out (boxS w.heap.size x) (by simp))) | (go_at_call 22; refine (in_any _ _ _ _).mono ?_; rintro e w7 ⟨rfl, rfl⟩))
        obtain rfl := HAE.out
        generalize hU : wI = U at hP t0 t1 t2 t3 k0 k1 f0 f1 l0 l1 g0 g1 ⊢
        clear hU k0 k1 f0 f1 l0 l1 g0 g1
        have HAL := Lib.hid (fun (V : World) (h : Below U.heap.size U V) => hP.out.to h)
        clear hP
        have HL0 := Lib.hid (fun (V : World) (h : Below U.heap.size U V) => (show Lst V V.heap.size (some ⟨b, o, none⟩) c3 plan from HAL.out V h (lstS (some ⟨b, o, none⟩) c3 plan) (by simp)))
        have HSO := Lib.hid (fun (V : World) (h : Below U.heap.size U V) => (⟨(show TBox V w.heap.size x from HAL.out V h (boxS w.heap.size x) (by simp)).c0, (show TBox V w.heap.size x from HAL.out V h (boxS w.heap.size x) (by simp)).c1, (show TBox V w.heap.size x from HAL.out V h (boxS w.heap.size x) (by simp)).c2, (show TBox V w.heap.size x from HAL.out V h (boxS w.heap.size x) (by simp)).c3, h⟩ : V.cell? ⟨w.heap.size, 0, none⟩ = some (.int .i64 x.n) ∧ V.cell? ⟨w.heap.size, 1, none⟩ = some (.slice x.ai x.init.length x.ci) ∧ V.cell? ⟨w.heap.size, 2, none⟩ = some (.slice x.ag x.goal.length x.cg) ∧ V.cell? ⟨w.heap.size, 3, none⟩ = some (.slice x.ao x.ops.length x.co) ∧ Below U.heap.size U V))
        have hww := Below.refl U.heap.size U
        have HF := Lib.hid (fun (V : World) (h : Below U.heap.size U V) => show Below w.heap.size w V from HAL.out V h (belS w) (by simp))
        have hqT : (c3 = k + 1) = True := eq_true HQ.out
        go_region_held3 (fun V => V.cell? ⟨w.heap.size, 0, none⟩ = some (.int .i64 x.n) ∧ V.cell? ⟨w.heap.size, 1, none⟩ = some (.slice x.ai x.init.length x.ci) ∧ V.cell? ⟨w.heap.size, 2, none⟩ = some (.slice x.ag x.goal.length x.cg) ∧ V.cell? ⟨w.heap.size, 3, none⟩ = some (.slice x.ao x.ops.length x.co) ∧ Below U.heap.size U V) (first | (refine ⟨?_, ?_, ?_, ?_, ?_⟩ <;> assumption) | (exact HSO.out _ hww.drew) | (exact HSO.out _ hww) | (exact HSO.out _ (bel_step (last5 (by assumption)) (by assumption))) | (exact HSO.out _ (al6 (last5 (by assumption)))) | (exact HSO.out _ (al6 (last5 (by assumption))).drew) | (exact HSO.out _ (gr6 (last5 (by assumption)) HOC.out hgrow)) | (exact HSO.out _ (last5 (by assumption))) | (refine HSO.out _ (Below.setCell (Below.setCell (last5 (by assumption)) ?_ _) ?_ _) <;> (first | exact Nat.le_refl _ | assumption))) (first | (go_at_call 23; refine (HCp.out _ ?_).mono ?_; (exact HL0.out _ (last5 (by assumption))); rintro e wC ⟨vc, rfl, hown, hb⟩; rw [HTL.out] at hown; have HOC := Lib.hid (own_mono hown (bel_le (last5 (by assumption)))); have hsC := Nat.le_trans (bel_le (last5 (by assumption))) hb.size; have HNE := Lib.hid (fun (q : Nat) (h : vc.ownBlock = some q) => hown.lt q h); (first | (refine have_two (g := U.heap.size) (u := .int .i64 0) (v := .int .i64 0) hb ?_ (fun hz => ?_); (first | (exact two_new _ _ _ _) | (exact two1 (two_new _ _ _ _))); have HZ := Lib.hid hz; clear hz) | skip)) | (refine step_append_all (by rfl) _ _ _ (by rfl) U.heap.size 3 i0 (.int .i64 0) 1 8 Tryd.underlying22 hi0 hz0 hz1 hz2 rfl (by omega) vc k ((plan.take k).map (Value.int .i64)) (by rfl) ?_ ⟨b, o, none⟩ (plan.length - (k + 1)) _ ((plan.drop (k + 1)).map (Value.int .i64)) (by rfl) (by simp) ?_ (by intro u hu; obtain ⟨q, _, rfl⟩ := List.mem_map.1 hu; rfl) (by have := HLN.out; unfold maxLen; omega) (by have := HLN.out; omega) ?_ ?_; (first | exact HOC.out | exact HOC.out.alloc _ | exact (HOC.out.alloc _).drew | exact (HOC.out.drew.alloc _) | exact HOC.out.drew); (exact HND.out _ _); (first | omega | (simp; omega)); intro v1 w1 hown1 hgrow; obtain ⟨a1, c1, N, rfl, hN, hl1⟩ := own_cat hown1; have HL1 := Lib.hid hl1; have HN := Lib.hid hN; clear hN hl1 hown1; have hsW := Nat.le_trans (bel_le (last5 (by assumption))) hgrow.size; (first | (refine have_gr (g := U.heap.size) (u := .int .i64 0) (v := .int .i64 0) hgrow ?_ ?_ (fun hz => ?_); (first | (exact HZ.out) | (exact two1 HZ.out)); (intro e9; have h9 := (HNE.out _ e9.symm).1; (first | omega | (simp at h9; done) | (simp at h9; omega))); have HZ1 := Lib.hid hz; clear hz) | (refine have_gr (g := wC.heap.size) (u := .int .i64 0) (v := .int .i64 0) hgrow ?_ ?_ (fun hz => ?_); (first | (exact two_new _ _ _ _) | (exact two1 (two_new _ _ _ _))); (intro e9; have h9 := (HNE.out _ e9.symm).2; (first | omega | (simp at h9; done) | (simp at h9; omega))); have HZ2 := Lib.hid hz; clear hz) | skip)) | (go_at_call 19; refine (HSv.out _ _ _ _ HN.out ?_ ?_).mono ?_; (exact (show TskIn _ _ x from HAL.out _ (last5 (by assumption)) (tskS x) (by simp))); (first | (exact HL1.out) | (exact lst_al HL1.out)); rintro e wV ⟨rfl, hb⟩; (first | (refine have_two (g := U.heap.size) (u := .int .i64 0) (v := .int .i64 0) hb ?_ (fun hz => ?_); (first | (exact HZ1.out) | (exact two1 HZ1.out)); obtain ⟨_, z0, z1, z2, z3⟩ := hz) | (refine have_two (g := wC.heap.size) (u := .int .i64 0) (v := .int .i64 0) hb ?_ (fun hz => ?_); (first | (exact HZ2.out) | (exact two1 HZ2.out)); obtain ⟨_, z0, z1, z2, z3⟩ := hz) | (refine have_two (g := w1.heap.size) (u := .int .i64 0) (v := .int .i64 0) hb ?_ (fun hz => ?_); (first | (exact two_new _ _ _ _) | (exact two1 (two_new _ _ _ _))); obtain ⟨_, z0, z1, z2, z3⟩ := hz) | skip)))
        all_goals
          go_wp2
          go_ret
          exact ⟨rfl, HF.out _ (last5 (by assumption))⟩
      case neg =>
        go_enter Tryd.func6, Tryd.ntmps6
        go_upto_region 9 with (first | (go_at_call 17; have hTk := Lib.hid (show TskIn _ _ x from hP.out (tskS x) (by simp)); have hLp := Lib.hid (show Lst _ _ a3 c3 plan from hP.out (lstS a3 c3 plan) (by simp)); have hTb := Lib.hid (show TabIn _ from hP.out tabS (by simp)); (with_reducible refine (HMn.out _ hTk.out hLp.out hTb.out).mono ?_); rintro e wM ⟨rfl, hb⟩; have hP := Lib.hid (Alive.cons (twoS wM.heap.size (.int .i64 0) (.int .i64 0)) (two_new wM _ _ 27) ((hP.out.to hb).to ((Below.refl _ _).alloc (Nat.le_refl _) _))); clear hb; obtain ⟨_, t0, t1, t2, t3⟩ := (show TBox _ _ x from hP.out (boxS w.heap.size x) (by simp)); obtain ⟨_, k0, k1, f0, f1⟩ := (show Two _ wM.heap.size _ _ from hP.out (twoS wM.heap.size (.int .i64 0) (.int .i64 0)) (by simp))) | (go_at_call 10; have hTb := Lib.hid (show TabIn _ from hP.out tabS (by simp)); (with_reducible refine (shortens_any hFl hRd hMn _ hTb.out).mono ?_); rintro e wH ⟨rfl, hb⟩; have hP := Lib.hid (hP.out.to hb); clear hb; obtain ⟨_, t0, t1, t2, t3⟩ := (show TBox _ _ x from hP.out (boxS w.heap.size x) (by simp)); obtain ⟨_, k0, k1, f0, f1⟩ := (show Two _ wM.heap.size _ _ from hP.out (twoS wM.heap.size (.int .i64 0) (.int .i64 0)) (by simp))) | (go_at_call 13; have hTk := Lib.hid (show TskIn _ _ x from hP.out (tskS x) (by simp)); have hLp := Lib.hid (show Lst _ _ a3 c3 plan from hP.out (lstS a3 c3 plan) (by simp)); have hTb := Lib.hid (show TabIn _ from hP.out tabS (by simp)); (with_reducible refine (HRd.out _ hTk.out hLp.out hTb.out).mono ?_); rintro e wR ⟨aR, cR, rfl, hl, _, hb⟩; have hP := Lib.hid (Alive.cons (twoS wR.heap.size (.int .i64 0) (.int .i64 0)) (two_new wR _ _ 27) ((Alive.cons (lstS aR cR plan) hl (hP.out.to hb)).to ((Below.refl _ _).alloc (Nat.le_refl _) _))); clear hl hb; obtain ⟨_, t0, t1, t2, t3⟩ := (show TBox _ _ x from hP.out (boxS w.heap.size x) (by simp)); obtain ⟨_, l0, l1, g0, g1⟩ := (show Two _ wR.heap.size _ _ from hP.out (twoS wR.heap.size (.int .i64 0) (.int .i64 0)) (by simp))) | (go_at_call 14; have hLp := Lib.hid (show Lst _ _ a3 c3 plan from hP.out (lstS a3 c3 plan) (by simp)); have hLr := Lib.hid (show Lst _ _ aR cR plan from hP.out (lstS aR cR plan) (by simp)); (with_reducible refine (ints_same aR a3 cR c3 plan plan rfl _ hLr.out hLp.out).mono ?_); rintro e wI ⟨rfl, hb⟩; have hP := Lib.hid (hP.out.to hb); clear hb; obtain ⟨_, t0, t1, t2, t3⟩ := (show TBox _ _ x from hP.out (boxS w.heap.size x) (by simp))) | (go_at_call 22; refine (in_any _ _ _ _).mono ?_; rintro e w7 ⟨rfl, rfl⟩))
        obtain rfl := HAE.out
        generalize hU : wI = U at hP t0 t1 t2 t3 k0 k1 f0 f1 l0 l1 g0 g1 ⊢
        clear hU k0 k1 f0 f1 l0 l1 g0 g1
        have HAL := Lib.hid (fun (V : World) (h : Below U.heap.size U V) => hP.out.to h)
        clear hP
        have HL0 := Lib.hid (fun (V : World) (h : Below U.heap.size U V) => (show Lst V V.heap.size (some ⟨b, o, none⟩) c3 plan from HAL.out V h (lstS (some ⟨b, o, none⟩) c3 plan) (by simp)))
        have HSO := Lib.hid (fun (V : World) (h : Below U.heap.size U V) => (⟨(show TBox V w.heap.size x from HAL.out V h (boxS w.heap.size x) (by simp)).c0, (show TBox V w.heap.size x from HAL.out V h (boxS w.heap.size x) (by simp)).c1, (show TBox V w.heap.size x from HAL.out V h (boxS w.heap.size x) (by simp)).c2, (show TBox V w.heap.size x from HAL.out V h (boxS w.heap.size x) (by simp)).c3, h⟩ : V.cell? ⟨w.heap.size, 0, none⟩ = some (.int .i64 x.n) ∧ V.cell? ⟨w.heap.size, 1, none⟩ = some (.slice x.ai x.init.length x.ci) ∧ V.cell? ⟨w.heap.size, 2, none⟩ = some (.slice x.ag x.goal.length x.cg) ∧ V.cell? ⟨w.heap.size, 3, none⟩ = some (.slice x.ao x.ops.length x.co) ∧ Below U.heap.size U V))
        have hww := Below.refl U.heap.size U
        have HF := Lib.hid (fun (V : World) (h : Below U.heap.size U V) => show Below w.heap.size w V from HAL.out V h (belS w) (by simp))
        go_region_held3 (fun V => V.cell? ⟨w.heap.size, 0, none⟩ = some (.int .i64 x.n) ∧ V.cell? ⟨w.heap.size, 1, none⟩ = some (.slice x.ai x.init.length x.ci) ∧ V.cell? ⟨w.heap.size, 2, none⟩ = some (.slice x.ag x.goal.length x.cg) ∧ V.cell? ⟨w.heap.size, 3, none⟩ = some (.slice x.ao x.ops.length x.co) ∧ Below U.heap.size U V) (first | (refine ⟨?_, ?_, ?_, ?_, ?_⟩ <;> assumption) | (exact HSO.out _ hww.drew) | (exact HSO.out _ hww) | (exact HSO.out _ (bel_step (last5 (by assumption)) (by assumption))) | (exact HSO.out _ (al6 (last5 (by assumption)))) | (exact HSO.out _ (al6 (last5 (by assumption))).drew) | (exact HSO.out _ (gr6 (last5 (by assumption)) HOC.out hgrow)) | (exact HSO.out _ (last5 (by assumption))) | (refine HSO.out _ (Below.setCell (Below.setCell (last5 (by assumption)) ?_ _) ?_ _) <;> (first | exact Nat.le_refl _ | assumption))) (first | (go_at_call 23; refine (HCp.out _ ?_).mono ?_; (exact HL0.out _ (last5 (by assumption))); rintro e wC ⟨vc, rfl, hown, hb⟩; rw [HTL.out] at hown; have HOC := Lib.hid (own_mono hown (bel_le (last5 (by assumption)))); have hsC := Nat.le_trans (bel_le (last5 (by assumption))) hb.size; have HNE := Lib.hid (fun (q : Nat) (h : vc.ownBlock = some q) => hown.lt q h); (first | (refine have_two (g := U.heap.size) (u := .int .i64 0) (v := .int .i64 0) hb ?_ (fun hz => ?_); (first | (exact two_new _ _ _ _) | (exact two1 (two_new _ _ _ _))); have HZ := Lib.hid hz; clear hz) | skip)) | (refine step_append_all (by rfl) _ _ _ (by rfl) U.heap.size 3 i0 (.int .i64 0) 1 8 Tryd.underlying22 hi0 hz0 hz1 hz2 rfl (by omega) vc k ((plan.take k).map (Value.int .i64)) (by rfl) ?_ ⟨b, o + (k + 1), none⟩ (plan.length - (k + 1)) _ ((plan.drop (k + 1)).map (Value.int .i64)) (by rfl) (by simp) ?_ (by intro u hu; obtain ⟨q, _, rfl⟩ := List.mem_map.1 hu; rfl) (by have := HLN.out; unfold maxLen; omega) (by have := HLN.out; omega) ?_ ?_; (first | exact HOC.out | exact HOC.out.alloc _ | exact (HOC.out.alloc _).drew | exact (HOC.out.drew.alloc _) | exact HOC.out.drew); (exact news_drop (HL0.out _ (last5 (by assumption)))); (first | omega | (simp; omega)); intro v1 w1 hown1 hgrow; obtain ⟨a1, c1, N, rfl, hN, hl1⟩ := own_cat hown1; have HL1 := Lib.hid hl1; have HN := Lib.hid hN; clear hN hl1 hown1; have hsW := Nat.le_trans (bel_le (last5 (by assumption))) hgrow.size; (first | (refine have_gr (g := U.heap.size) (u := .int .i64 0) (v := .int .i64 0) hgrow ?_ ?_ (fun hz => ?_); (first | (exact HZ.out) | (exact two1 HZ.out)); (intro e9; have h9 := (HNE.out _ e9.symm).1; (first | omega | (simp at h9; done) | (simp at h9; omega))); have HZ1 := Lib.hid hz; clear hz) | (refine have_gr (g := wC.heap.size) (u := .int .i64 0) (v := .int .i64 0) hgrow ?_ ?_ (fun hz => ?_); (first | (exact two_new _ _ _ _) | (exact two1 (two_new _ _ _ _))); (intro e9; have h9 := (HNE.out _ e9.symm).2; (first | omega | (simp at h9; done) | (simp at h9; omega))); have HZ2 := Lib.hid hz; clear hz) | skip)) | (go_at_call 19; refine (HSv.out _ _ _ _ HN.out ?_ ?_).mono ?_; (exact (show TskIn _ _ x from HAL.out _ (last5 (by assumption)) (tskS x) (by simp))); (first | (exact HL1.out) | (exact lst_al HL1.out)); rintro e wV ⟨rfl, hb⟩; (first | (refine have_two (g := U.heap.size) (u := .int .i64 0) (v := .int .i64 0) hb ?_ (fun hz => ?_); (first | (exact HZ1.out) | (exact two1 HZ1.out)); obtain ⟨_, z0, z1, z2, z3⟩ := hz) | (refine have_two (g := wC.heap.size) (u := .int .i64 0) (v := .int .i64 0) hb ?_ (fun hz => ?_); (first | (exact HZ2.out) | (exact two1 HZ2.out)); obtain ⟨_, z0, z1, z2, z3⟩ := hz) | (refine have_two (g := w1.heap.size) (u := .int .i64 0) (v := .int .i64 0) hb ?_ (fun hz => ?_); (first | (exact two_new _ _ _ _) | (exact two1 (two_new _ _ _ _))); obtain ⟨_, z0, z1, z2, z3⟩ := hz) | skip)))
        all_goals
          go_wp2
          go_ret
          exact ⟨rfl, HF.out _ (last5 (by assumption))⟩
end Go.Proofs.YtkflidnclndpkaaDoor
