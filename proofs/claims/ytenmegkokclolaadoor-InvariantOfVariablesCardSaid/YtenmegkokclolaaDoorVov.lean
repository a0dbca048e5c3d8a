/- The law InvariantOfVariables. -/
import Derived.Test.YtenmegkokclolaaDoorVpu
import Derived.Test.YtenmegkokclolaaDoorMpv
import Derived.Test.YtenmegkokclolaaDoorMzx
import Derived.Test.YtenmegkokclolaaDoorMcs
namespace Go.Proofs.YtenmegkokclolaaDoor
open Go.RowKit
set_option linter.unusedSimpArgs false
set_option linter.unusedVariables false
set_option maxRecDepth 100000

/-- The facts of variable v, the first j of them. -/
def grV (S : List Int) (v j : Nat) : List Int := (List.range j).map fun i : Nat => smN S v + (i : Int)
theorem grV_len (S : List Int) (v j : Nat) : (grV S v j).length = j := by simp [grV]
theorem grV_succ (S : List Int) (v j : Nat) : grV S v (j + 1) = grV S v j ++ [smN S v + (j : Int)] := by simp [grV, List.range_succ]
theorem mem_grV {S : List Int} {v j : Nat} {y : Int} : y ∈ grV S v j ↔ ∃ i : Nat, i < j ∧ y = smN S v + (i : Int) := by
  simp only [grV, List.mem_map, List.mem_range]
  constructor
  · rintro ⟨i, h, e⟩; exact ⟨i, h, e.symm⟩
  · rintro ⟨i, h, e⟩; exact ⟨i, h, e.symm⟩
theorem grV_isS {S : List Int} (hz : SzOk S) {v : Nat} (hv : v < S.length) : IsS (grV S v (ix S v).toNat) (smN S S.length) := by
  refine ⟨?_, fun y hy => ?_⟩
  · unfold grV
    rw [List.pairwise_map]
    refine List.Pairwise.imp ?_ (List.pairwise_lt_range)
    intro a b h; omega
  · obtain ⟨i, hi, rfl⟩ := mem_grV.1 hy
    exact fct_bd hz hv (by omega)
section
variable {x : MT} {y : Tsk}
theorem ov_ind (hv : MVal x) (h24 : smN x.sizes x.sizes.length ≤ 24) (hs : IsSt x y) {v : Nat} (hk : v < x.sizes.length) :
    iF y (grV x.sizes v (ix x.sizes v).toNat) = (0, 0) ∧ iB y (grV x.sizes v (ix x.sizes v).toNat) = true := by
  have htk := strips_valid hv h24 hs.n hs.init hs.goal hs.ops
  have hgS := grV_isS hv.sz hk
  have hF : iF y (grV x.sizes v (ix x.sizes v).toNat) = (0, 0) := by
    unfold iF
    rw [htk, if_neg (by simp), hs.n, if_pos (setB_iff.2 hgS)]
  refine ⟨hF, ?_⟩
  have h24' : ∀ {l : List Int}, IsS l (smN x.sizes x.sizes.length) → IsS l 24 := fun h => h.mono h24
  have hg24 := h24' hgS
  have hi24 : IsS y.init 24 := by rw [hs.init]; exact h24' (isS_in hv.sz hv.init)
  unfold iB
  rw [hF, decide_eq_true rfl, Bool.true_and, indB_iff hi24]
  refine ⟨?_, fun k hk2 => ?_⟩
  · rw [hs.init]
    intro a b h1 h2 h3 h4
    obtain ⟨i, hi, rfl⟩ := mem_grV.1 h2
    obtain ⟨j, hj, rfl⟩ := mem_grV.1 h4
    have e1 := (in_at hv.sz hv.init hk (by omega)).1 h1
    have e2 := (in_at hv.sz hv.init hk (by omega)).1 h3
    omega
  · have hk3 : k < x.ops.length := by rw [hs.ops, List.length_map] at hk2; exact hk2
    have ho : opr y.ops k = opS x.sizes (mop x.ops k) := by rw [hs.ops]; simp [opr, mop, List.getD, hk3]
    rw [ho]
    have hp := hv.pre k hk3
    have hq := hv.post k hk3
    generalize mop x.ops k = o at hp hq
    have hO : OpS (opS x.sizes o) 24 := ⟨h24' (isS_gv hv.sz hp), h24' (isS_gv hv.sz hq), h24' (isS_ot hv.sz hq)⟩
    rw [brk_false hO hg24]
    intro _
    have key : ∀ a, a ∈ gvL x.sizes o.post → ∀ i : Nat, i < (ix x.sizes v).toNat → a = smN x.sizes v + (i : Int) → ∀ j : Nat, j < (ix x.sizes v).toNat → i ≠ j → smN x.sizes v + (j : Int) ∈ otL x.sizes o.post := by
      intro a ha i hi e j hj hne
      rw [e, gv_at hv.sz hq hk (by omega)] at ha
      obtain ⟨q, q1, q2, q3⟩ := ha
      rw [ot_at hv.sz hq hk (by omega)]
      exact ⟨q, q1, q2, by omega⟩
    have hdis := dis_ga hv.sz hq
    refine ⟨?_, ?_⟩
    · intro a b h1 h2 h3 h4
      obtain ⟨i, hi, e1⟩ := mem_grV.1 h2
      obtain ⟨j, hj, e2⟩ := mem_grV.1 h4
      by_cases hne : i = j
      · rw [e1, e2, hne]
      · have := key a h1 i hi e1 j hj hne
        rw [← e2] at this
        exact absurd this (disB_iff.1 hdis b h3)
    · intro a h1 h2 r h3 h4
      obtain ⟨i, hi, e1⟩ := mem_grV.1 h2
      obtain ⟨j, hj, e2⟩ := mem_grV.1 ((mem_bfL (show IsS (opS x.sizes o).pre 24 from hO.pre)).1 h3).1
      by_cases hne : i = j
      · rw [e2, ← hne, ← e1]; exact h1
      · have := key a h1 i hi e1 j hj hne
        rw [← e2] at this
        exact absurd this h4
end

def mboxS (g : Nat) (x : MT) : SP := ⟨fun W => MBox W g x, fun _ _ hb h => h.to hb h.lt⟩
def qdS (g : Nat) (a b c d : Value) : SP := ⟨fun W => Quad W g a b c d, fun _ _ hb h => h.to hb h.lt⟩
theorem two_at1 (W : World) (cs : Array Value) (t : TypeId) (u v : Int) : Two ((W.alloc (.cells cs t)).alloc (.cells #[.int .i64 u, .int .i64 v] 27)) (W.heap.size + 1) (.int .i64 u) (.int .i64 v) := by
  have := two_new (W.alloc (.cells cs t)) (.int .i64 u) (.int .i64 v) 27
  rw [World.size_alloc] at this
  exact this
set_option maxHeartbeats 4000000 in
theorem vars_law (HSC : SortC) (x : MT) (w : World) (hX : MTIn w w.heap.size x) (hT : TabIn w) :
    Calls Tryd.prog 6 #[.agg #[.slice x.az x.sizes.length x.cz, .slice x.ai x.init.length x.ci, .slice x.ag x.goal.length x.cg, .slice x.ao x.ops.length x.co]] w fun e w' => e = .returned (.bool true) ∧ Below w.heap.size w w' := by
  have hbW : Below w.heap.size w (w.alloc (.cells #[.slice x.az x.sizes.length x.cz, .slice x.ai x.init.length x.ci, .slice x.ag x.goal.length x.cg, .slice x.ao x.ops.length x.co] 50)) := al_b w (.cells #[.slice x.az x.sizes.length x.cz, .slice x.ai x.init.length x.ci, .slice x.ag x.goal.length x.cg, .slice x.ao x.ops.length x.co] 50)
  have hP := Lib.hid (Alive.cons (mboxS w.heap.size x) (mbox_new w x 50) (Alive.cons tabS (hT.to hbW (Nat.le_refl _)) (Alive.cons (belS w) hbW (Alive.nil _))))
  have hST := strips_any x _ (hX.to hbW hbW.size)
  have HSZ := Lib.hid (fun (W : World) (h : Below w.heap.size w W) => (hX.to h h.size).sizes)
  clear hX hT hbW
  by_cases hr : (msF x).1 = 0
  case neg =>
    have HST := Lib.hid (hST.mono fun e w' (q : StrP _ x e w') => show ∃ y : Tsk, e = .returned (.tuple #[.agg #[.int .i64 y.n, .slice y.ai y.init.length y.ci, .slice y.ag y.goal.length y.cg, .slice y.ao y.ops.length y.co], faultV (msF x)]) ∧ TskIn w' w'.heap.size y ∧ Below _ _ w' ∧ y.n = 0 by
      obtain ⟨y, he, hy, hb, _, hc⟩ := q
      exact ⟨y, he, hy, hb, by rw [hc hr]; rfl⟩)
    clear hST
    generalize msF x = r at *
    have hne : (r.1 != 0) = true := by simpa using hr
    have hne2 : (r.1 == 0) = false := by simpa using hr
    clear hr
    go_enter Tryd.func6, Tryd.ntmps6
    go_wp2_with (first | (go_at_call 22; (with_reducible refine HST.out.mono ?_); rintro e wS ⟨y, rfl, hy, hb, hq⟩; have HQ := Lib.hid hq; have hP := Lib.hid (Alive.cons (twoS (wS.heap.size + 1) (.int .i64 r.1) (.int .i64 r.2)) (two_at1 wS #[.int .i64 y.n, .slice y.ai y.init.length y.ci, .slice y.ag y.goal.length y.cg, .slice y.ao y.ops.length y.co] 25 r.1 r.2) (((Alive.cons (qdS wS.heap.size (.int .i64 y.n) (.slice y.ai y.init.length y.ci) (.slice y.ag y.goal.length y.cg) (.slice y.ao y.ops.length y.co)) (quad_new wS _ _ _ _ 25) ((Alive.cons (tkS y) hy (hP.out.to hb)).to ((Below.refl _ _).alloc (Nat.le_refl _) _)))).to ((Below.refl _ _).alloc (Nat.le_refl _) _))); clear hb hy hq; obtain ⟨_, t0, t1, t2, t3⟩ := (show MBox _ w.heap.size x from hP.out (mboxS w.heap.size x) (by simp)); obtain ⟨_, s0, s1, s2, s3, _⟩ := (show Quad _ wS.heap.size (.int .i64 y.n) (.slice y.ai y.init.length y.ci) (.slice y.ag y.goal.length y.cg) (.slice y.ao y.ops.length y.co) from hP.out (qdS wS.heap.size (.int .i64 y.n) (.slice y.ai y.init.length y.ci) (.slice y.ag y.goal.length y.cg) (.slice y.ao y.ops.length y.co)) (by simp)); obtain ⟨_, m0, m1, h0, h1⟩ := (show Two _ (wS.heap.size + 1) (.int .i64 r.1) (.int .i64 r.2) from hP.out (twoS (wS.heap.size + 1) (.int .i64 r.1) (.int .i64 r.2)) (by simp))) | (go_at_call 11; have hTb := (show TabIn _ from hP.out tabS (by simp)); (with_reducible refine (groups_any HSC _ hTb).mono ?_); clear hTb; rintro e w2 ⟨rfl, hb⟩; have hP := Lib.hid (hP.out.to hb); clear hb; obtain ⟨_, t0, t1, t2, t3⟩ := (show MBox _ w.heap.size x from hP.out (mboxS w.heap.size x) (by simp)); obtain ⟨_, s0, s1, s2, s3, _⟩ := (show Quad _ wS.heap.size (.int .i64 y.n) (.slice y.ai y.init.length y.ci) (.slice y.ag y.goal.length y.cg) (.slice y.ao y.ops.length y.co) from hP.out (qdS wS.heap.size (.int .i64 y.n) (.slice y.ai y.init.length y.ci) (.slice y.ag y.goal.length y.cg) (.slice y.ao y.ops.length y.co)) (by simp)); obtain ⟨_, m0, m1, h0, h1⟩ := (show Two _ (wS.heap.size + 1) (.int .i64 r.1) (.int .i64 r.2) from hP.out (twoS (wS.heap.size + 1) (.int .i64 r.1) (.int .i64 r.2)) (by simp))))
    go_ret
    exact ⟨ret_bool (by rw [HQ.out]; rfl), hP.out (belS w) (by simp)⟩
  obtain ⟨hm, h24, hz⟩ := ms_of hr
  have hv := (mf_val hm).1
  have HST := Lib.hid (hST.mono fun e w' (q : StrP _ x e w') => show ∃ y : Tsk, e = .returned (.tuple #[.agg #[.int .i64 y.n, .slice y.ai y.init.length y.ci, .slice y.ag y.goal.length y.cg, .slice y.ao y.ops.length y.co], faultV (msF x)]) ∧ TskIn w' w'.heap.size y ∧ Below _ _ w' ∧ IsSt x y by
    obtain ⟨y, he, hy, hb, hc, _⟩ := q
    obtain ⟨e1, e2, e3, e4⟩ := hc hr
    exact ⟨y, he, hy, hb, ⟨e1, e2, e3, e4⟩⟩)
  have HV := Lib.hid hv
  have H24 := Lib.hid h24
  clear hST hm hz hv h24
  generalize msF x = r at *
  have hne : (r.1 != 0) = false := by simp [hr]
  have hne2 : (r.1 == 0) = true := by simp [hr]
  clear hr
  obtain ⟨i0, hi, hz0, hz1, hz2⟩ := info_parts info_int
  go_enter Tryd.func6, Tryd.ntmps6
  go_wp2_with (first | (go_at_call 22; (with_reducible refine HST.out.mono ?_); rintro e wS ⟨y, rfl, hy, hb, hq⟩; have HQ := Lib.hid hq; have hP := Lib.hid (Alive.cons (twoS (wS.heap.size + 1) (.int .i64 r.1) (.int .i64 r.2)) (two_at1 wS #[.int .i64 y.n, .slice y.ai y.init.length y.ci, .slice y.ag y.goal.length y.cg, .slice y.ao y.ops.length y.co] 25 r.1 r.2) (((Alive.cons (qdS wS.heap.size (.int .i64 y.n) (.slice y.ai y.init.length y.ci) (.slice y.ag y.goal.length y.cg) (.slice y.ao y.ops.length y.co)) (quad_new wS _ _ _ _ 25) ((Alive.cons (tkS y) hy (hP.out.to hb)).to ((Below.refl _ _).alloc (Nat.le_refl _) _)))).to ((Below.refl _ _).alloc (Nat.le_refl _) _))); clear hb hy hq; obtain ⟨_, t0, t1, t2, t3⟩ := (show MBox _ w.heap.size x from hP.out (mboxS w.heap.size x) (by simp)); obtain ⟨_, s0, s1, s2, s3, _⟩ := (show Quad _ wS.heap.size (.int .i64 y.n) (.slice y.ai y.init.length y.ci) (.slice y.ag y.goal.length y.cg) (.slice y.ao y.ops.length y.co) from hP.out (qdS wS.heap.size (.int .i64 y.n) (.slice y.ai y.init.length y.ci) (.slice y.ag y.goal.length y.cg) (.slice y.ao y.ops.length y.co)) (by simp)); obtain ⟨_, m0, m1, h0, h1⟩ := (show Two _ (wS.heap.size + 1) (.int .i64 r.1) (.int .i64 r.2) from hP.out (twoS (wS.heap.size + 1) (.int .i64 r.1) (.int .i64 r.2)) (by simp))) | (go_at_call 11; have hTb := (show TabIn _ from hP.out tabS (by simp)); (with_reducible refine (groups_any HSC _ hTb).mono ?_); clear hTb; rintro e w2 ⟨rfl, hb⟩; have hP := Lib.hid (hP.out.to hb); clear hb; obtain ⟨_, t0, t1, t2, t3⟩ := (show MBox _ w.heap.size x from hP.out (mboxS w.heap.size x) (by simp)); obtain ⟨_, s0, s1, s2, s3, _⟩ := (show Quad _ wS.heap.size (.int .i64 y.n) (.slice y.ai y.init.length y.ci) (.slice y.ag y.goal.length y.cg) (.slice y.ao y.ops.length y.co) from hP.out (qdS wS.heap.size (.int .i64 y.n) (.slice y.ai y.init.length y.ci) (.slice y.ag y.goal.length y.cg) (.slice y.ao y.ops.length y.co)) (by simp)); obtain ⟨_, m0, m1, h0, h1⟩ := (show Two _ (wS.heap.size + 1) (.int .i64 r.1) (.int .i64 r.2) from hP.out (twoS (wS.heap.size + 1) (.int .i64 r.1) (.int .i64 r.2)) (by simp))))
  clear t0 t1 t2 t3 s0 s1 s2 s3 m0 m1 h0 h1
  have HAL := Lib.hid (fun (V : World) (h : Below w2.heap.size w2 V) => hP.out.to h)
  clear hP
  have hsl := HV.out.sz.n8
  go_loopw [5, 6] (fun a v wr => ∃ k : Nat, k ≤ x.sizes.length ∧ v = .int .i64 k ∧ a = .int .i64 (smN x.sizes k) ∧ Below w2.heap.size w2 wr) (fun _ v _ => x.sizes.length - (intOf v).toNat)
  case atStart => exact ⟨0, by omega, rfl, rfl, Below.refl _ _⟩
  case round =>
    obtain ⟨k, hk, rfl, rfl, hbw⟩ := hrel
    have hP := Lib.hid (HAL.out _ hbw)
    have HB := Lib.hid hbw
    clear hbw
    obtain ⟨_, t0, t1, t2, t3⟩ := (show MBox _ w.heap.size x from hP.out (mboxS w.heap.size x) (by simp)); obtain ⟨_, s0, s1, s2, s3, _⟩ := (show Quad _ wS.heap.size (.int .i64 y.n) (.slice y.ai y.init.length y.ci) (.slice y.ag y.goal.length y.cg) (.slice y.ao y.ops.length y.co) from hP.out (qdS wS.heap.size (.int .i64 y.n) (.slice y.ai y.init.length y.ci) (.slice y.ag y.goal.length y.cg) (.slice y.ao y.ops.length y.co)) (by simp)); obtain ⟨_, m0, m1, h0, h1⟩ := (show Two _ (wS.heap.size + 1) (.int .i64 r.1) (.int .i64 r.2) from hP.out (twoS (wS.heap.size + 1) (.int .i64 r.1) (.int .i64 r.2)) (by simp))
    by_cases hlt : k < x.sizes.length
    case neg =>
      have hge : ¬ ((k : Int) < x.sizes.length) := by omega
      go_wp2
      go_ret
      exact ⟨rfl, hP.out (belS w) (by simp)⟩
    have hx6 := HV.out.sz.r k hlt
    have hm6 := smN_le HV.out.sz k hk
    obtain ⟨b, o, haz, hbl, hcz⟩ := (HSZ.out _ (hP.out (belS w) (by simp))).nums.at_ hlt
    have HAZ := Lib.hid haz
    clear haz
    rw [HAZ.out] at t0
    have HIX := Lib.hid (show ix x.sizes k = ((ix x.sizes k).toNat : Nat) by omega)
    have HSN := Lib.hid (show smN x.sizes (k + 1) = smN x.sizes k + ix x.sizes k from rfl)
    have HOV := Lib.hid (ov_ind HV.out H24.out HQ.out hlt)
    rename World => wo
    go_wp2
    go_loopw [7, 8] (fun gv jv wv => ∃ j : Nat, j ≤ (ix x.sizes k).toNat ∧ jv = .int .i64 j ∧ Below wo.heap.size wo wv ∧ wv.ownsRow wo.heap.size 3 1 gv j ((grV x.sizes k j).map (Value.int .i64))) (fun _ jv _ => (ix x.sizes k).toNat - (intOf jv).toNat)
    case atStart => exact ⟨0, by omega, rfl, Below.refl _ _, World.ownsRow_nil _ _ _ _⟩
    case round =>
      obtain ⟨j, hj, rfl, hbv, hown⟩ := hrel
      have HBV := Lib.hid hbv
      have HW2 := Lib.hid (HB.out.trans (hbv.mono HB.out.size))
      have HOWN := Lib.hid hown
      clear hbv hown t0 t1 t2 t3 s0 s1 s2 s3 m0 m1 h0 h1 hcz
      have hP := Lib.hid (HAL.out _ HW2.out)
      obtain ⟨_, t0, t1, t2, t3⟩ := (show MBox _ w.heap.size x from hP.out (mboxS w.heap.size x) (by simp)); obtain ⟨_, s0, s1, s2, s3, _⟩ := (show Quad _ wS.heap.size (.int .i64 y.n) (.slice y.ai y.init.length y.ci) (.slice y.ag y.goal.length y.cg) (.slice y.ao y.ops.length y.co) from hP.out (qdS wS.heap.size (.int .i64 y.n) (.slice y.ai y.init.length y.ci) (.slice y.ag y.goal.length y.cg) (.slice y.ao y.ops.length y.co)) (by simp)); obtain ⟨_, m0, m1, h0, h1⟩ := (show Two _ (wS.heap.size + 1) (.int .i64 r.1) (.int .i64 r.2) from hP.out (twoS (wS.heap.size + 1) (.int .i64 r.1) (.int .i64 r.2)) (by simp))
      obtain ⟨b', o', haz', _, hcz⟩ := (HSZ.out _ (hP.out (belS w) (by simp))).nums.at_ hlt
      rw [HAZ.out] at t0 haz'
      cases haz'
      by_cases hjl : j < (ix x.sizes k).toNat
      · have djl : decide ((j : Int) < ix x.sizes k) = true := decide_eq_true (by omega)
        go_wp2_with (at_builtin; refine wpList_append_own _ rfl _ _ 22 rfl wo.heap.size 3 i0 (.int .i64 0) 1 8 Tryd.underlying22 hi hz0 hz1 hz2 rfl (by decide) _ _ _ rfl (HOWN.out.alloc _) ⟨wr.heap.size, 0, none⟩ 1 1 [.int .i64 (smN x.sizes k + j)] rfl rfl ?c1 ?c2 ?c3 ?c4 ?c5 ?_)
        case c1 => exact cell_one_new _ _ _
        case c2 => simp [Value.oneCell']
        case c3 => unfold maxLen; omega
        case c4 => omega
        case c5 => (have h5 := HBV.out.size; simp at h5 ⊢; omega)
        intro v' w6 hown6 hgrow _
        have HG := Lib.hid hgrow
        have hb6 : Below wo.heap.size wr w6 := Below.grown ((Below.refl _ _).alloc HBV.out.size _) hgrow (by have := HBV.out.size; simp; omega) (fun q hq => (HOWN.out.lt q hq).1)
        clear hgrow
        go_wp2
        go_roundw
        case rel => exact ⟨j + 1, by omega, by go_num, HBV.out.trans hb6, by rw [grV_succ]; simpa using hown6⟩
        case measure => simp [intOf]; omega
      · obtain rfl : j = (ix x.sizes k).toNat := by omega
        have djl : decide ((((ix x.sizes k).toNat : Nat) : Int) < ix x.sizes k) = false := decide_eq_false (by omega)
        obtain ⟨aG, cG, rfl, hlG⟩ := (sliceOf_own (by rw [grV_len]; exact HOWN.out)).set
        have hIN := Inductive_any y aG cG (grV x.sizes k (ix x.sizes k).toNat) wr (show TskIn _ _ y from hP.out (tkS y) (by simp)) hlG
        rw [HOV.out.1, HOV.out.2] at hIN
        have HIN := Lib.hid hIN
        clear hIN hlG
        go_wp2_with (go_at_call 10; (with_reducible refine HIN.out.mono ?_); rintro e wI ⟨rfl, hb⟩; have HWI := Lib.hid (HW2.out.trans ((hb.mono HW2.out.size).trans ((Below.refl wI.heap.size wI).alloc (Nat.le_refl _) (.cells #[.int .i64 0, .int .i64 0] 27) |>.mono (Nat.le_trans HW2.out.size hb.size)))); have hP := Lib.hid (HAL.out _ HWI.out); clear hb; obtain ⟨_, t0, t1, t2, t3⟩ := (show MBox _ w.heap.size x from hP.out (mboxS w.heap.size x) (by simp)); obtain ⟨_, s0, s1, s2, s3, _⟩ := (show Quad _ wS.heap.size (.int .i64 y.n) (.slice y.ai y.init.length y.ci) (.slice y.ag y.goal.length y.cg) (.slice y.ao y.ops.length y.co) from hP.out (qdS wS.heap.size (.int .i64 y.n) (.slice y.ai y.init.length y.ci) (.slice y.ag y.goal.length y.cg) (.slice y.ao y.ops.length y.co)) (by simp)); obtain ⟨_, m0, m1, h0, h1⟩ := (show Two _ (wS.heap.size + 1) (.int .i64 r.1) (.int .i64 r.2) from hP.out (twoS (wS.heap.size + 1) (.int .i64 r.1) (.int .i64 r.2)) (by simp)); obtain ⟨b', o', haz', _, hcz⟩ := (HSZ.out _ (hP.out (belS w) (by simp))).nums.at_ hlt; rw [HAZ.out] at t0 haz'; cases haz')
        go_roundw
        case rel => exact ⟨k + 1, by omega, by go_num, by rw [HSN.out], HWI.out⟩
        case measure => simp [intOf]; omega
end Go.Proofs.YtenmegkokclolaaDoor
