/- The reference's GroupsOf. -/
import Derived.Test.YtenmegkokclolaaDoorVss
import Derived.Deep.RegionHeld3
namespace Go.Proofs.YtenmegkokclolaaDoor
open Go.RowKit
set_option linter.unusedSimpArgs false
set_option linter.unusedVariables false
set_option maxRecDepth 100000

def flt (p : List Int → Bool) (ls : List (List Int)) (k : Nat) : List (List Int) := (ls.take k).filter p
theorem flt_yes {p : List Int → Bool} {ls : List (List Int)} {k : Nat} (hk : k < ls.length) (h : p (rw_ ls k) = true) : flt p ls (k + 1) = flt p ls k ++ [rw_ ls k] := by
  unfold flt
  rw [take_rw hk, List.filter_append]
  simp [h]
theorem flt_no {p : List Int → Bool} {ls : List (List Int)} {k : Nat} (hk : k < ls.length) (h : p (rw_ ls k) = false) : flt p ls (k + 1) = flt p ls k := by
  unfold flt
  rw [take_rw hk, List.filter_append]
  simp [h]
theorem flt_all (p : List Int → Bool) (ls : List (List Int)) : flt p ls ls.length = ls.filter p := by simp [flt]
theorem flt_len (p : List Int → Bool) (ls : List (List Int)) (k : Nat) : (flt p ls k).length ≤ k := by
  unfold flt
  have := List.length_filter_le p (ls.take k)
  rw [List.length_take] at this
  omega
def gsA (x : Tsk) : List (List Int) := ssL x.n.toNat [] 0
def okP (x : Tsk) (g : List Int) : Bool := decide (2 ≤ g.length) && indB x g
def gsL (x : Tsk) : List (List Int) := (gsA x).filter (okP x)
def lgP (ls : List (List Int)) (g : List Int) : Bool := !(List.range ls.length).any (fun k => decide (g.length < (rw_ ls k).length) && subB g (rw_ ls k))
def lgK (ls : List (List Int)) (g : List Int) (k : Nat) : Bool := !(List.range k).any (fun k => decide (g.length < (rw_ ls k).length) && subB g (rw_ ls k))
theorem lgK_succ (ls : List (List Int)) (g : List Int) (k : Nat) : lgK ls g (k + 1) = (lgK ls g k && !(decide (g.length < (rw_ ls k).length) && subB g (rw_ ls k))) := by
  unfold lgK
  rw [List.range_succ, List.any_append]
  simp [Bool.not_or]
def gsO (x : Tsk) : List (List Int) := (gsL x).filter (lgP (gsL x))
theorem OwnB.at_ {W : World} {bR b0 : Nat} {v : Value} {ls : List (List Int)} (h : OwnB W bR b0 v ls) {k : Nat} (hk : k < ls.length) : ∃ g c ak ck, v = .slice (some ⟨g, 0, none⟩) ls.length c ∧ W.cell? ⟨g, k, none⟩ = some (.slice ak (rw_ ls k).length ck) ∧ Lst W W.heap.size ak ck (rw_ ls k) ∧ W.ownsRow b0 3 1 (.slice ak (rw_ ls k).length ck) (rw_ ls k).length ((rw_ ls k).map (Value.int .i64)) := by
  obtain ⟨vals, ho, hl, hr⟩ := h
  obtain ⟨u, hu, hou⟩ := hr k hk
  obtain ⟨ak, ck, rfl, hlst, _⟩ := ownS_lst hou
  obtain ⟨g, c, rfl⟩ := own_ptr ho (by omega)
  refine ⟨g, c, ak, ck, rfl, ?_, hlst, hou⟩
  have := ho.cells (g := g) rfl k _ hu
  simpa [Addr.add_lit] using this
/-- A list more in a row. -/
theorem OwnB.snoc {W w1 : World} {bR b0 : Nat} {v v' u : Value} {ls : List (List Int)} {t : List Int} {vals : List Value} (hv : W.ownsRow bR 22 1 v ls.length vals) (hl : vals.length = ls.length)
    (hk : ∀ k, k < ls.length → ∃ u, vals[k]? = some u ∧ W.ownsRow b0 3 1 u (rw_ ls k).length ((rw_ ls k).map (Value.int .i64))) (hu : W.ownsRow b0 3 1 u t.length (t.map (Value.int .i64)))
    (hown : w1.ownsRow bR 22 1 v' (ls.length + 1) (vals ++ [u])) (hg : W.grownBy w1 v.ownBlock) : OwnB w1 bR b0 v' (ls ++ [t]) :=
  OwnB.app (b := [t]) (vb := [u]) hv hl hk rfl (fun k h => by
    have : k = 0 := by simpa using h
    subst this
    exact ⟨u, rfl, hu⟩) hown hg
theorem ssL_isS : ∀ (f : Nat) (h : List Int) (p : Int) (n : Int), p + f = n → 0 ≤ p → IsS h p → ∀ g ∈ ssL f h p, IsS g n
  | 0, h, p, n, e, hp, hs, g, hg => by
    have : g = h := by simpa [ssL] using hg
    subst this
    exact hs.mono (by omega)
  | f + 1, h, p, n, e, hp, hs, g, hg => by
    unfold ssL at hg
    rcases List.mem_append.1 hg with hg | hg
    · refine ssL_isS f _ (p + 1) n (by omega) (by omega) ⟨?_, fun y hy => ?_⟩ g hg
      · rw [List.pairwise_append]
        refine ⟨hs.1, by simp, fun a ha b hb => ?_⟩
        have := (hs.2 a ha).2
        have : b = p := by simpa using hb
        omega
      · rcases List.mem_append.1 hy with hy | hy
        · have := hs.2 y hy; omega
        · have : y = p := by simpa using hy
          omega
    · exact ssL_isS f _ (p + 1) n (by omega) (by omega) (hs.mono (by omega)) g hg
def GoPost (w : World) (ls : List (List Int)) (e : Ending) (w' : World) : Prop := ∃ v, e = .returned v ∧ SliceOf2 w' v ls ∧ Below w.heap.size w w'
theorem cell_lt {W : World} {g k : Nat} {v : Value} (h : W.cell? ⟨g, k, none⟩ = some v) : g < W.heap.size := by
  rcases Nat.lt_or_ge g W.heap.size with h1 | h1
  · exact h1
  · unfold World.cell? at h
    simp [Array.getElem?_eq_none h1] at h
theorem OwnB.own {W : World} {bR b0 : Nat} {v : Value} {ls : List (List Int)} (h : OwnB W bR b0 v ls) : ∃ vals, W.ownsRow bR 22 1 v ls.length vals := by
  obtain ⟨vals, ho, _⟩ := h; exact ⟨vals, ho⟩
set_option maxHeartbeats 4000000 in
theorem groupsOf_any (x : Tsk) (w : World) (hX : TskIn w w.heap.size x) (hv : Val x x.n.toNat) (h8 : x.n ≤ 8) :
    Calls Tryd.prog 15 #[.agg #[.int .i64 x.n, .slice x.ai x.init.length x.ci, .slice x.ag x.goal.length x.cg, .slice x.ao x.ops.length x.co]] w (GoPost w (gsO x)) := by
  have hb1 : Below w.heap.size w (w.alloc (.cells #[.int .i64 x.n, .slice x.ai x.init.length x.ci, .slice x.ag x.goal.length x.cg, .slice x.ao x.ops.length x.co] 25)) := by go_grown
  have hX1 := hX.to hb1 hb1.size
  have hT := tbox_new w x 25
  have HX := Lib.hid (fun (W : World) (h : Below ((w.alloc (.cells #[.int .i64 x.n, .slice x.ai x.init.length x.ci, .slice x.ag x.goal.length x.cg, .slice x.ao x.ops.length x.co] 25))).heap.size (w.alloc (.cells #[.int .i64 x.n, .slice x.ai x.init.length x.ci, .slice x.ag x.goal.length x.cg, .slice x.ao x.ops.length x.co] 25)) W) => hX1.to h h.size)
  have HT := Lib.hid (fun (W : World) (h : Below ((w.alloc (.cells #[.int .i64 x.n, .slice x.ai x.init.length x.ci, .slice x.ag x.goal.length x.cg, .slice x.ao x.ops.length x.co] 25))).heap.size (w.alloc (.cells #[.int .i64 x.n, .slice x.ai x.init.length x.ci, .slice x.ag x.goal.length x.cg, .slice x.ao x.ops.length x.co] 25)) W) => hT.to h hT.lt)
  have HBW := Lib.hid (fun (W : World) (h : Below ((w.alloc (.cells #[.int .i64 x.n, .slice x.ai x.init.length x.ci, .slice x.ag x.goal.length x.cg, .slice x.ao x.ops.length x.co] 25))).heap.size (w.alloc (.cells #[.int .i64 x.n, .slice x.ai x.init.length x.ci, .slice x.ag x.goal.length x.cg, .slice x.ao x.ops.length x.co] 25)) W) => hb1.trans (h.mono hb1.size))
  have hn := hv.eq
  have HSS := Lib.hid (subsets_any x.n.toNat [] 0 x.n ((w.alloc (.cells #[.int .i64 x.n, .slice x.ai x.init.length x.ci, .slice x.ag x.goal.length x.cg, .slice x.ao x.ops.length x.co] 25))).heap.size (.slice none 0 0) (w.alloc (.cells #[.int .i64 x.n, .slice x.ai x.init.length x.ci, .slice x.ag x.goal.length x.cg, .slice x.ao x.ops.length x.co] 25)) (World.ownsRow_nil _ _ _ _) (by omega) (by omega) (by simp; omega) (Nat.le_refl _) (by omega))
  have hAS := fun g hg => ssL_isS x.n.toNat [] 0 x.n (by omega) (by omega) ⟨List.Pairwise.nil, fun y hy => by simp at hy⟩ g hg
  have hAL := ssL_len x.n.toNat [] 0
  have hpw : 2 ^ x.n.toNat ≤ 1024 := Nat.le_trans (Nat.pow_le_pow_right (by omega) (show x.n.toNat ≤ 10 by omega)) (by decide)
  have hp1 : 1 ≤ 2 ^ x.n.toNat := Nat.one_le_two_pow
  have HGL := Lib.hid (show gsL x = (ssL x.n.toNat [] 0).filter (okP x) from rfl)
  generalize ssL x.n.toNat [] 0 = all at *
  have hA1 : 1 ≤ all.length := by omega
  have hA2 : all.length ≤ 1024 := by omega
  have HAS := Lib.hid (fun k (hk : k < all.length) => (hAS _ (rw_mem hk)).mono (show x.n ≤ 24 by omega))
  have HV := Lib.hid hv
  clear hX hX1 hT hb1 hn hAS hAL hpw hp1 hv
  obtain ⟨j0, hj, hy0, hy1, hy2⟩ := info_parts info_sl
  go_enter Tryd.func15, Tryd.ntmps15
  go_wp2_with (go_at_call 35; (with_reducible refine HSS.out.mono ?_); rintro e w2 ⟨va, rfl, hoa, hb2⟩; have HOA := Lib.hid (fun (W : World) (h : Below w2.heap.size w2 W) => hoa.to h); obtain ⟨_, hva⟩ := hoa.own; obtain ⟨gA, cA, hvA⟩ := own_ptr hva hA1; subst hvA; clear hva; have HB2 := Lib.hid hb2; clear hb2 hoa)
  have hz2 := HB2.out.size
  go_loopw [3, 5] (fun v i wr => ∃ k : Nat, k ≤ all.length ∧ i = .int .i64 k ∧ Below w2.heap.size w2 wr ∧ OwnB wr w2.heap.size ((w.alloc (.cells #[.int .i64 x.n, .slice x.ai x.init.length x.ci, .slice x.ag x.goal.length x.cg, .slice x.ao x.ops.length x.co] 25))).heap.size v (flt (okP x) all k)) (fun _ i _ => all.length - (intOf i).toNat)
  case atStart => exact ⟨0, by omega, rfl, Below.refl _ _, OwnB.nil _ _ _⟩
  case round =>
    obtain ⟨k, hk, rfl, hbw, hown⟩ := hrel
    obtain ⟨_, hvo⟩ := hown.own
    obtain ⟨a3, c3, rfl⟩ := own_slice hvo
    have hl3 := flt_len (okP x) all k
    clear hvo
    have HB := Lib.hid hbw
    have HO := Lib.hid hown
    have HBV := Lib.hid (HB2.out.trans (hbw.mono hz2))
    clear hbw hown
    obtain ⟨_, t0, t1, t2, t3⟩ := HT.out _ HBV.out
    by_cases hlt : k < all.length
    case neg =>
      obtain rfl : k = all.length := by omega
      have hge : ¬ ((all.length : Int) < all.length) := by omega
      have HO2 := HO.out
      have HGO := Lib.hid (show gsO x = (gsL x).filter (lgP (gsL x)) from rfl)
      have hfl : flt (okP x) all all.length = gsL x := by rw [flt_all, HGL.out]
      rw [hfl] at HO2 hl3 ⊢
      clear hfl HO HGL
      generalize gsL x = L at *
      have HOL := Lib.hid (fun (V : World) (h : Below wr.heap.size wr V) => HO2.to h)
      clear HO2 t0 t1 t2 t3
      rename World => wA
      go_wp2
      go_loopw [6, 7] (fun v i wr => ∃ q : Nat, q ≤ L.length ∧ i = .int .i64 q ∧ Below wA.heap.size wA wr ∧ OwnB wr wA.heap.size ((w.alloc (.cells #[.int .i64 x.n, .slice x.ai x.init.length x.ci, .slice x.ag x.goal.length x.cg, .slice x.ao x.ops.length x.co] 25))).heap.size v (flt (lgP L) L q)) (fun _ i _ => L.length - (intOf i).toNat)
      case atStart => exact ⟨0, by omega, rfl, Below.refl _ _, OwnB.nil _ _ _⟩
      case round =>
        obtain ⟨q, hq, rfl, hbq, hown⟩ := hrel
        obtain ⟨_, hvo⟩ := hown.own
        obtain ⟨a6, c6, rfl⟩ := own_slice hvo
        have hl6 := flt_len (lgP L) L q
        clear hvo
        have HBQ := Lib.hid hbq
        have HOQ := Lib.hid hown
        clear hbq hown
        by_cases hql : q < L.length
        case neg =>
          obtain rfl : q = L.length := by omega
          have hge : ¬ ((L.length : Int) < L.length) := by omega
          have hr := HOQ.out.rws
          rw [flt_all] at hr ⊢
          rw [← HGO.out] at hr ⊢
          go_wp2
          go_ret
          exact ⟨_, rfl, hr, HBW.out _ (HBV.out.trans (HBQ.out.mono HBV.out.size))⟩
        obtain ⟨gL, cL, aq, cq, e1, hcq, hlq, hoq⟩ := (HOL.out _ HBQ.out).at_ hql
        cases e1
        have HLQ := Lib.hid hlq
        have HOK := Lib.hid hoq
        clear hlq hoq
        rename World => wB
        go_wp2
        go_loopw [8, 9] (fun bv jv wr => ∃ j : Nat, j ≤ L.length ∧ jv = .int .i64 j ∧ bv = .bool (lgK L (rw_ L q) j) ∧ Below wB.heap.size wB wr) (fun _ jv _ => L.length - (intOf jv).toNat)
        case atStart => exact ⟨0, by omega, rfl, rfl, Below.refl _ _⟩
        case round =>
          obtain ⟨j, hj', rfl, rfl, hbj⟩ := hrel
          have HBJ := Lib.hid hbj
          clear hbj
          have hcq2 := (HBJ.out.cell (p := ⟨gL, q, none⟩) (cell_lt hcq)).trans hcq
          by_cases hjl : j < L.length
          case neg =>
            have hje : j = L.length := by omega
            have hge : ¬ ((j : Int) < L.length) := by omega
            have hkp : lgK L (rw_ L q) j = lgP L (rw_ L q) := by rw [hje]; rfl
            cases hlp : lgP L (rw_ L q)
            · have HQ := Lib.hid (flt_no hql hlp)
              rw [hkp, hlp]
              go_wp2
              go_roundw
              case rel => exact ⟨q + 1, by omega, by go_num, HBQ.out.trans (HBJ.out.mono HBQ.out.size), by rw [HQ.out]; exact HOQ.out.to HBJ.out⟩
              case measure => simp [intOf]; omega
            · have HQ := Lib.hid (flt_yes hql hlp)
              rw [hkp, hlp]
              have hO4 := HOQ.out.to HBJ.out
              unfold OwnB at hO4
              obtain ⟨vals, hvv, hvl, hvk⟩ := hO4
              go_wp2_with (at_builtin; refine wpList_append_own _ rfl _ _ 35 rfl wA.heap.size 22 j0 (.slice none 0 0) 1 24 Tryd.underlying35 hj hy0 hy1 hy2 rfl (by decide) _ _ _ rfl (hvv.alloc _) ⟨wr.heap.size, 0, none⟩ 1 1 [.slice aq (rw_ L q).length cq] rfl rfl ?f1 ?f2 ?f3 ?f4 ?f5 ?_)
              case f2 => simp [Value.oneCell']
              case f3 => unfold maxLen; omega
              case f4 => omega
              case f5 => (have h6 := HBQ.out.size; have h7 := HBJ.out.size; simp at h6 h7 ⊢; omega)
              intro v' w6 hown6 hgrow _
              have hb6 : Below wA.heap.size wr w6 := Below.grown ((Below.refl _ _).alloc (by have := HBQ.out.size; have := HBJ.out.size; omega) _) hgrow (by have := HBQ.out.size; have := HBJ.out.size; simp; omega) (fun q hq => (hvv.lt q hq).1)
              have HO6 := Lib.hid (OwnB.snoc (hvv.alloc _) hvl (fun q hq => by obtain ⟨u, hu, hou⟩ := hvk q hq; exact ⟨u, hu, hou.alloc _⟩) ((own_to HOK.out HBJ.out).alloc _) hown6 hgrow)
              clear hgrow hown6
              go_wp2
              go_roundw
              case rel => exact ⟨q + 1, by omega, by go_num, (HBQ.out.trans (HBJ.out.mono HBQ.out.size)).trans hb6, by rw [HQ.out]; exact HO6.out⟩
              case measure => simp [intOf]; omega
          obtain ⟨g9, c9, aj, cj, e2, hcj, hlj, _⟩ := (HOL.out _ (HBQ.out.trans (HBJ.out.mono HBQ.out.size))).at_ hjl
          cases e2
          have HT := Lib.hid (lgK_succ L (rw_ L q) j)
          have hsu := fun n : Nat => subset_any aq aj cq cj (rw_ L q) (rw_ L j) (wr.drewN n) (HLQ.out.to (belowN HBJ.out n) (belowN HBJ.out n).size).nums (hlj.to (belowN (Below.refl wr.heap.size wr) n) (belowN (Below.refl wr.heap.size wr) n).size).nums HLQ.out.len hlj.len
          by_cases hlen : (rw_ L q).length < (rw_ L j).length
          · have d1 : decide (((rw_ L q).length : Int) < ((rw_ L j).length : Int)) = true := decide_eq_true (by omega)
            cases hsb : subB (rw_ L q) (rw_ L j)
            all_goals
              rw [hsb] at hsu
              have HSU := Lib.hid hsu
              clear hsu hlj
              go_wp2
              go_quiet (first | (go_at_call 21; (with_reducible refine quiet_same (HSU.out _))))
              go_wp2
              go_roundw
              case rel => exact ⟨j + 1, by omega, by go_num, by rw [HT.out, hsb, decide_eq_true hlen]; simp, belowN HBJ.out _⟩
              case measure => simp [intOf]; omega
          · have d1 : decide (((rw_ L q).length : Int) < ((rw_ L j).length : Int)) = false := decide_eq_false (by omega)
            have HSU := Lib.hid hsu
            clear hsu hlj
            go_wp2
            go_quiet (first | (go_at_call 21; (with_reducible refine quiet_same (HSU.out _))))
            go_wp2
            go_roundw
            case rel => exact ⟨j + 1, by omega, by go_num, by rw [HT.out, decide_eq_false hlen]; simp, belowN HBJ.out _⟩
            case measure => simp [intOf]; omega
    obtain ⟨g, c, ak, ck, e1, hck, hlk, hok⟩ := (HOA.out _ HB.out).at_ hlt
    cases e1
    have HOK := Lib.hid hok
    by_cases hl2 : 2 ≤ (rw_ all k).length
    · have d1 : decide ((2 : Int) ≤ ((rw_ all k).length : Int)) = true := decide_eq_true (by omega)
      have hgr := fun (V : World) (h : Below wr.heap.size wr V) => group_any x ak ck (rw_ all k) V (HX.out V (HBV.out.trans (h.mono HBV.out.size))) (HV.out.init.mono (by have := HV.out.le; omega)) HV.out.ops24 (HAS.out k hlt) (hlk.to h h.size)
      have HSO := Lib.hid (fun (V : World) (h : Below wr.heap.size wr V) => (⟨(h.cell (p := ⟨w.heap.size, 0, none⟩) (HT.out _ HBV.out).lt).trans t0, (h.cell (p := ⟨w.heap.size, 1, none⟩) (HT.out _ HBV.out).lt).trans t1, (h.cell (p := ⟨w.heap.size, 2, none⟩) (HT.out _ HBV.out).lt).trans t2, (h.cell (p := ⟨w.heap.size, 3, none⟩) (HT.out _ HBV.out).lt).trans t3, (h.cell (p := ⟨gA, k, none⟩) (cell_lt hck)).trans hck, h⟩ : V.cell? ⟨w.heap.size, 0, none⟩ = some (.int .i64 x.n) ∧ V.cell? ⟨w.heap.size, 1, none⟩ = some (.slice x.ai x.init.length x.ci) ∧ V.cell? ⟨w.heap.size, 2, none⟩ = some (.slice x.ag x.goal.length x.cg) ∧ V.cell? ⟨w.heap.size, 3, none⟩ = some (.slice x.ao x.ops.length x.co) ∧ V.cell? ⟨gA, k, none⟩ = some (.slice ak (rw_ all k).length ck) ∧ Below wr.heap.size wr V))
      have hUU := Below.refl wr.heap.size wr
      cases hind : indB x (rw_ all k)
      · have HQ := Lib.hid (flt_no hlt (show okP x (rw_ all k) = false by unfold okP; rw [hind, Bool.and_false]))
        rw [hind] at hgr
        have HGR := Lib.hid hgr
        clear hgr hlk hok hind
        go_wp2
        go_region_held3 (fun V => V.cell? ⟨w.heap.size, 0, none⟩ = some (.int .i64 x.n) ∧ V.cell? ⟨w.heap.size, 1, none⟩ = some (.slice x.ai x.init.length x.ci) ∧ V.cell? ⟨w.heap.size, 2, none⟩ = some (.slice x.ag x.goal.length x.cg) ∧ V.cell? ⟨w.heap.size, 3, none⟩ = some (.slice x.ao x.ops.length x.co) ∧ V.cell? ⟨gA, k, none⟩ = some (.slice ak (rw_ all k).length ck) ∧ Below wr.heap.size wr V) (first | assumption | (refine ⟨?_, ?_, ?_, ?_, ?_, ?_⟩ <;> assumption) | (exact HSO.out _ hUU.drew) | (exact HSO.out _ (bel_go (last6v (by assumption)) (by assumption)))) (first | (go_at_call 12; (with_reducible refine (HGR.out _ ?_).mono ?_); (first | exact hUU.drew | exact last6v (by assumption)); rintro e w4 ⟨rfl, hb4⟩))
        all_goals
          have HB4 := Lib.hid (bel_go hUU.drew hb4)
          go_wp2
          go_roundw
          case rel => exact ⟨k + 1, by omega, by go_num, HB.out.trans (HB4.out.mono HB.out.size), by rw [HQ.out]; exact HO.out.to HB4.out⟩
          case measure => simp [intOf]; omega
      · have HQ := Lib.hid (flt_yes hlt (show okP x (rw_ all k) = true by unfold okP; rw [hind, decide_eq_true hl2]; rfl))
        rw [hind] at hgr
        have HGR := Lib.hid hgr
        clear hgr hlk hok hind
        go_wp2
        go_region_held3 (fun V => V.cell? ⟨w.heap.size, 0, none⟩ = some (.int .i64 x.n) ∧ V.cell? ⟨w.heap.size, 1, none⟩ = some (.slice x.ai x.init.length x.ci) ∧ V.cell? ⟨w.heap.size, 2, none⟩ = some (.slice x.ag x.goal.length x.cg) ∧ V.cell? ⟨w.heap.size, 3, none⟩ = some (.slice x.ao x.ops.length x.co) ∧ V.cell? ⟨gA, k, none⟩ = some (.slice ak (rw_ all k).length ck) ∧ Below wr.heap.size wr V) (first | assumption | (refine ⟨?_, ?_, ?_, ?_, ?_, ?_⟩ <;> assumption) | (exact HSO.out _ hUU.drew) | (exact HSO.out _ (bel_go (last6v (by assumption)) (by assumption)))) (first | (go_at_call 12; (with_reducible refine (HGR.out _ ?_).mono ?_); (first | exact hUU.drew | exact last6v (by assumption)); rintro e w4 ⟨rfl, hb4⟩))
        all_goals
          have HB4 := Lib.hid (bel_go hUU.drew hb4)
          have hO4 := HO.out.to HB4.out
          unfold OwnB at hO4
          obtain ⟨vals, hvv, hvl, hvk⟩ := hO4
          have hck4 := (HB4.out.cell (p := ⟨gA, k, none⟩) (cell_lt hck)).trans hck
          go_wp2_with (at_builtin; refine wpList_append_own _ rfl _ _ 35 rfl w2.heap.size 22 j0 (.slice none 0 0) 1 24 Tryd.underlying35 hj hy0 hy1 hy2 rfl (by decide) _ _ _ rfl (hvv.alloc _) ⟨w4.heap.size, 0, none⟩ 1 1 [.slice ak (rw_ all k).length ck] rfl rfl ?c1 ?c2 ?c3 ?c4 ?c5 ?_)
          case c1 => exact cell_one_new _ _ _
          case c2 => simp [Value.oneCell']
          case c3 => unfold maxLen; omega
          case c4 => omega
          case c5 => (have h5 := HB.out.size; have h6 := HB4.out.size; simp at h5 h6 ⊢; omega)
          intro v' w6 hown6 hgrow _
          have hb6 : Below w2.heap.size w4 w6 := Below.grown ((Below.refl _ _).alloc (by have := HB.out.size; have := HB4.out.size; omega) _) hgrow (by have := HB.out.size; have := HB4.out.size; simp; omega) (fun q hq => (hvv.lt q hq).1)
          have HO6 := Lib.hid (OwnB.snoc (hvv.alloc _) hvl (fun q hq => by obtain ⟨u, hu, hou⟩ := hvk q hq; exact ⟨u, hu, hou.alloc _⟩) ((own_to HOK.out HB4.out).alloc _) hown6 hgrow)
          clear hgrow hown6
          go_wp2
          go_roundw
          case rel => exact ⟨k + 1, by omega, by go_num, (HB.out.trans (HB4.out.mono HB.out.size)).trans hb6, by rw [HQ.out]; exact HO6.out⟩
          case measure => simp [intOf]; omega
    · have d1 : decide ((2 : Int) ≤ ((rw_ all k).length : Int)) = false := decide_eq_false (by omega)
      have HQ := Lib.hid (flt_no hlt (show okP x (rw_ all k) = false by unfold okP; rw [decide_eq_false hl2]; rfl))
      clear hlk hok
      go_wp2
      go_quiet (first | fail)
      go_wp2
      go_roundw
      case rel => exact ⟨k + 1, by omega, by go_num, belowN HB.out _, by rw [HQ.out]; exact HO.out.to (belowN (Below.refl _ _) _)⟩
      case measure => simp [intOf]; omega
end Go.Proofs.YtenmegkokclolaaDoor
