/- Package encode: Multi, where it returns a task. -/
import Derived.Test.YtiaobanloakplaaDoorEmg
namespace Go.Proofs.YtiaobanloakplaaDoor
open Go.RowKit
set_option linter.unusedSimpArgs false
set_option linter.unusedVariables false
set_option maxRecDepth 100000

theorem MS.toB {w V V2 : World} {x : Tsk} {B : Nat} (h : MS w V x) (hb : Below B V V2) (hB : w.heap.size + 3 ≤ B) : MS w V2 x :=
  ⟨h.below.trans (hb.mono (by omega)), h.box.to hb (by omega), h.res.to hb (by omega), h.two.to hb (by omega)⟩
theorem MS.far {w V : World} {x : Tsk} (h : MS w V x) {p : Addr} (hp : w.heap.size + 3 ≤ p.block) (u : Value) : MS w (V.setCell p u) x :=
  ⟨h.below.setCell (by omega) u, h.box.far (by omega) u, h.res.far (by omega) u, h.two.far (by omega) u⟩
/-- What the loop of Multi keeps: the boxes, what has been made before, the box of the task (u0 stands in its first cell), the row of v. -/
structure ML (w W4 V : World) (x : Tsk) (u0 v vg vo : Value) (l : List Int) : Prop where
  ms : MS w V x
  eq : Eqr (w.heap.size + 3) W4.heap.size W4 V
  q : Quad V W4.heap.size u0 (.slice none 0 0) vg vo
  row : V.ownsRow (W4.heap.size + 1) 3 1 v l.length (l.map (Value.int .i64))
section
variable {w W4 V V2 : World} {x : Tsk} {u0 v v2 vg vo : Value} {l l2 : List Int}
theorem ML.to (h : ML w W4 V x u0 v vg vo l) (hb : Below V.heap.size V V2) : ML w W4 V2 x u0 v vg vo l :=
  ⟨h.ms.to hb, h.eq.below hb (Nat.le_of_lt h.q.lt), h.q.to hb h.q.lt, own_to h.row hb⟩
theorem ML.app (h : ML w W4 V x u0 v vg vo l) (h4 : w.heap.size + 3 ≤ W4.heap.size) (hg : V.grownBy V2 v.ownBlock) (hr : V2.ownsRow (W4.heap.size + 1) 3 1 v2 l2.length (l2.map (Value.int .i64))) : ML w W4 V2 x u0 v2 vg vo l2 := by
  have hb : Below (W4.heap.size + 1) V V2 := (Below.refl _ _).grown hg h.q.lt (fun q hq => (h.row.lt q hq).1)
  exact ⟨h.ms.toB hb (by omega), h.eq.below hb (by omega), h.q.to hb (by omega), hr⟩
theorem ML.put (h : ML w W4 V x u0 v vg vo l) (h4 : w.heap.size + 3 ≤ W4.heap.size) : ML w W4 (V.setCell ⟨W4.heap.size, 0, none⟩ v) x v v vg vo l :=
  ⟨h.ms.far h4 _, h.eq.set (.inr (Nat.le_refl _)) _, h.q.s0 _, own_far3 h.row (by simp) _⟩
end
def szL (cs : List (List Int)) : List Int := cs.map (fun c => (c.length : Int) + 1)
theorem szL_step {cs : List (List Int)} {k : Nat} (h : k < cs.length) : (szL cs).take (k + 1) = (szL cs).take k ++ [((rw_ cs k).length : Int) + 1] := by
  rw [take_succ_ix (by simpa [szL] using h)]
  congr 2
  exact ix_mapl (f := fun c => (c.length : Int) + 1) h
theorem szL_len (cs : List (List Int)) : (szL cs).length = cs.length := by simp [szL]
set_option maxHeartbeats 8000000 in
theorem multi_good (x : Tsk) (gs : List (List Int)) (A : Option Addr) (c : Nat) (w : World) (hX : TskIn w w.heap.size x) (hG : Rws w w.heap.size A gs) (hgl : gs.length ≤ c) (hgm : c ≤ maxLen) (hT : TabIn w) (hz0 : (gfF x gs).1 = 0) (hl0 : ¬ (covR x gs).length = 0) (hl8 : ¬ 8 < (covR x gs).length) (hbg : bgA (covR x gs) = false) (hcg : crB (covR x gs) x.goal = false) (ms : List MOp) (fr : List Int) (hmk : mkN x.ops (covR x gs) x.ops.length = some (ms, fr)) : Calls Tryd.prog 14 #[.agg #[.int .i64 x.n, .slice x.ai x.init.length x.ci, .slice x.ag x.goal.length x.cg, .slice x.ao x.ops.length x.co], .slice A gs.length c] w (MuP w x gs) := by
  have hB2 := (ms_new w x).below
  have HK := Lib.hid (cover_any x gs A c _ (hX.to hB2 hB2.size) (hG.to hB2 hB2.size) hgl hgm (hT.to hB2 (Nat.le_refl _)))
  have HX := Lib.hid (fun (W : World) (h : Below w.heap.size w W) => hX.to h h.size)
  have hF0 := Lib.hid (ms_new w x)
  have HMC := Lib.hid (muC_of hz0 hl0 hl8 hbg)
  obtain ⟨r, hr⟩ : ∃ r, gfF x gs = r := ⟨_, rfl⟩
  have HR := Lib.hid hr
  have hr1 : r = (0, 0) := hr.symm.trans (gfF_zero hz0).1
  have hne : (r.1 != 0) = false := by simp [hr1]
  have hne2 : (r.1 == 0) = true := by simp [hr1]
  have hne3 : (r.2 != 0) = false := by simp [hr1]
  have hne4 : (r.2 == 0) = true := by simp [hr1]
  have d1 : (((covR x gs).length : Int) == 0) = false := lz_no hl0
  have d2 : decide ((8 : Int) < ((covR x gs).length : Int)) = false := decide_eq_false (by omega)
  have e2 : decide (8 < (covR x gs).length) = false := decide_eq_false hl8
  have HCT := Lib.hid (fun (W : World) (aC : Option Addr) (cC : Nat) (h : Rws W W.heap.size aC (covR x gs)) => containsLg_any aC cC (covR x gs) W h HMC.out.n48 HMC.out.l24)
  rw [hbg] at HCT
  have HAS := Lib.hid (fun (W : World) (aC : Option Addr) (cC : Nat) (h : Rws W W.heap.size aC (covR x gs)) (hb : Below w.heap.size w W) => assignments_any aC x.ag cC x.cg (covR x gs) x.goal W h (HX.out W hb).goal HMC.out.n48 HMC.out.l24)
  rw [hcg] at HAS
  have HOG := Lib.hid (fun (W : World) (aC : Option Addr) (cC : Nat) (h : Rws W W.heap.size aC (covR x gs)) (hb : Below w.heap.size w W) => operatorsOf_any x.ops (covR x gs) x.ao aC x.co cC W (HX.out W hb).ops h HMC.out.m (by omega) HMC.out.l5)
  rw [hmk] at HOG
  have HST := Lib.hid (fun (W : World) (aC : Option Addr) (cC : Nat) (h : Rws W W.heap.size aC (covR x gs)) (hb : Below w.heap.size w W) => state_any aC x.ai cC x.ci (covR x gs) x.init W h (HX.out W hb).init HMC.out.n48 HMC.out.l24)
  have H := Lib.hid (show muF x gs = (0, 0) by rw [HMC.out.eq, if_neg (by simp [hcg]), if_neg (by rw [hmk]; simp)])
  have HT2 := Lib.hid (show muT x gs = ⟨szL (covR x gs), stR (covR x gs) x.init, asgR (covR x gs) x.goal, ms, fr⟩ by unfold muT; rw [H.out, hmk]; rfl)
  have hl8' : (covR x gs).length ≤ 8 := by omega
  clear hX hG hB2 hgm hgl hT hz0 hl0 hl8 hbg hr hr1 hcg hmk
  obtain ⟨i0, hi, hz0, hz1, hz2⟩ := info_parts info_int
  go_enter Tryd.func14, Tryd.ntmps14
  go_wp2_with (first | (go_at_call 9; (with_reducible refine HK.out.mono ?_); rintro e w1 ⟨vC, he, hbw, hon⟩; rw [HR.out] at he; subst he; have hcl := hon.out; obtain ⟨aC, cC, rfl, hrn, _⟩ := hcl; have HRN := Lib.hid (hrn.to (al_b w1 (.cells #[.int .i64 r.1, .int .i64 r.2] 28))); have HCO := Lib.hid hon; have hF := Lib.hid ((hF0.out.to hbw).to (al_b w1 (.cells #[.int .i64 r.1, .int .i64 r.2] 28))); have hlt1 := (hF0.out.to hbw).two.lt; have HBW := Lib.hid hbw; clear hbw hon hrn; obtain ⟨_, ⟨_, t0, t1, t2, t3⟩, ⟨_, r0, r1, r2, r3, x0, x1, x2, x3⟩, ⟨_, k0, k1, f0, f1⟩⟩ := hF.out) | (go_at_call 48; (with_reducible refine (HCT.out _ aC cC HRN.out.rws).mono ?_); rintro e w2 ⟨rfl, rfl⟩) | (go_at_call 49; (with_reducible refine (HAS.out _ aC cC HRN.out.rws hF.out.below).mono ?_); rintro e w3 ⟨vG, rfl, ho3, hb3⟩; have HO3 := Lib.hid (slA_on ho3); have hsg := HO3.out.out; obtain ⟨aG, cG, rfl, _⟩ := hsg; have HB3 := Lib.hid hb3; have hF := Lib.hid (hF.out.to hb3); clear ho3 hb3 t0 t1 t2 t3 r0 r1 r2 r3 x0 x1 x2 x3 k0 k1 f0 f1; obtain ⟨_, ⟨_, t0, t1, t2, t3⟩, ⟨_, r0, r1, r2, r3, x0, x1, x2, x3⟩, ⟨_, k0, k1, f0, f1⟩⟩ := hF.out) | (go_at_call 50; (with_reducible refine (HOG.out _ aC cC (HRN.out.to HB3.out).rws hF.out.below).mono ?_); rintro e w4 ⟨hb4, vO, vF, rfl, hon4⟩; have hso := hon4.out; obtain ⟨⟨aO, cO, rfl, _⟩, aF, cF, rfl, _⟩ := hso; have HO4 := Lib.hid hon4; have HB4 := Lib.hid hb4; have hF := Lib.hid (hF.out.to hb4); clear hb4 hon4 t0 t1 t2 t3 r0 r1 r2 r3 x0 x1 x2 x3 k0 k1 f0 f1; obtain ⟨_, ⟨_, t0, t1, t2, t3⟩, ⟨_, r0, r1, r2, r3, x0, x1, x2, x3⟩, ⟨_, k0, k1, f0, f1⟩⟩ := hF.out))
  have hb14 : Below w1.heap.size w1 w4 := ((al_b w1 (.cells #[.int .i64 r.1, .int .i64 r.2] 28)).trans (HB3.out.mono (al_b w1 _).size)).trans (HB4.out.mono (Nat.le_trans (al_b w1 (.cells #[.int .i64 r.1, .int .i64 r.2] 28)).size HB3.out.size))
  have h13 : w.heap.size + 3 ≤ w1.heap.size := hlt1
  have h4 : w.heap.size + 3 ≤ w4.heap.size := Nat.le_trans h13 hb14.size
  have hz34 := HB4.out.size
  have hz13 : w1.heap.size ≤ w3.heap.size := Nat.le_trans (al_b w1 (.cells #[.int .i64 r.1, .int .i64 r.2] 28)).size HB3.out.size
  have HPA := Lib.hid (((HCO.out.mv ((Eqr.refl _ _ _).below hb14 (Nat.le_refl _))).wide (a2 := w.heap.size + 3) (b2 := w4.heap.size) (by first | (simp; done) | (simp; omega) | omega | (simp [World.setCell]; done) | (simp [World.setCell]; omega)) hb14.size).and (((HO3.out.mv ((Eqr.refl _ _ _).below HB4.out (Nat.le_refl _))).wide (a2 := w.heap.size + 3) (b2 := w4.heap.size) (Nat.le_trans h13 (al_b w1 _).size) hz34).and (HO4.out.wide (a2 := w.heap.size + 3) (b2 := w4.heap.size) (by omega) (Nat.le_refl _))))
  have HF4 := Lib.hid hF.out
  have H4 := Lib.hid h4
  have HSL := Lib.hid (fun (V : World) (h : Eqr (w.heap.size + 3) w4.heap.size w4 V) => (by have h9 := (HPA.out.at_ h).1; obtain ⟨a9, c9, e9, hr9, _⟩ := h9; injection e9 with e1 _ e3; subst e1 e3; exact hr9 : RwsN V aC (covR x gs)))
  clear hb14 h13 hz34 hz13 h4 hlt1 HB3 HB4 HO3 HO4 HCO HBW HRN hF t0 t1 t2 t3 r0 r1 r2 r3 x0 x1 x2 x3 k0 k1 f0 f1 HK HCT HAS HOG
  have HM0 := Lib.hid (show ML w w4 (w4.alloc (.cells #[.slice none 0 0, .slice none 0 0, (.slice aG (asgR (covR x gs) x.goal).length cG), (.slice aO ms.length cO)] 38)) x (.slice none 0 0) (.slice none 0 0) (.slice aG (asgR (covR x gs) x.goal).length cG) (.slice aO ms.length cO) [] from ⟨HF4.out.to (al_b _ _), (Eqr.refl _ _ _).alloc (Nat.le_refl _) _, quad_new _ _ _ _ _ _, World.ownsRow_nil _ _ _ _⟩)
  go_loopw [71] (fun i wr => ∃ (k : Nat) (v : Value), k ≤ (covR x gs).length ∧ i = .int .i64 k ∧ ML w w4 wr x v v (.slice aG (asgR (covR x gs) x.goal).length cG) (.slice aO ms.length cO) ((szL (covR x gs)).take k)) (fun i _ => (covR x gs).length - (intOf i).toNat)
  case atStart => exact ⟨0, _, by omega, rfl, HM0.out⟩
  case round =>
    obtain ⟨k, v, hk, rfl, hm⟩ := hrel
    have HM := Lib.hid hm
    obtain ⟨_, _, ⟨hql, q0, q1, q2, q3, y0, y1, y2, y3⟩, _⟩ := hm
    by_cases hlt : k < (covR x gs).length
    case pos =>
      obtain ⟨b, o, ak, ck, rfl, hbl, hcell, hlst⟩ := (HSL.out _ HM.out.eq).at_ hlt
      have HSS := Lib.hid (szL_step hlt)
      have hl24 := HMC.out.l24 k hlt
      have hlk : ((szL (covR x gs)).take k).length ≤ k := List.length_take_le _ _
      clear hlst
      generalize (szL (covR x gs)).take k = q at *
      go_wp2_with (at_builtin; refine wpList_append_own_at _ rfl _ _ 22 rfl ((w4.heap.size + 1)) 3 i0 (.int .i64 0) 1 8 Tryd.underlying22 hi hz0 hz1 hz2 rfl (by decide) _ _ _ rfl (HM.out.row.alloc _) ⟨wr.heap.size, 0, none⟩ 1 1 [.int .i64 (((rw_ (covR x gs) k).length : Int) + 1)] rfl rfl ?c1 ?c2 ?c3 ?c4 ?c5 ?_)
      case c1 => exact cell_one_new _ _ _
      case c2 => simp [Value.oneCell']
      case c3 => unfold maxLen; omega
      case c4 => omega
      case c5 => simp; omega
      intro v2 w2 hown2 hgrow _ _
      have HA := Lib.hid ((HM.out.to (al_b wr (.cells #[.int .i64 (((rw_ (covR x gs) k).length : Int) + 1)] 3))).app (l2 := q ++ [((rw_ (covR x gs) k).length : Int) + 1]) H4.out hgrow (by simpa using hown2))
      have hsv := slL_own HA.out.row
      obtain ⟨a2, c2, e2', _⟩ := hsv
      have e3 : v2 = .slice a2 (q.length + 1) c2 := by rw [e2', List.length_append, List.length_singleton]
      clear e2'
      subst e3
      have hq0 := HA.out.q.c0
      have hy0' := HA.out.q.f0
      clear hgrow hown2
      go_wp2
      go_roundw
      case rel => exact ⟨k + 1, _, by omega, by go_num, by rw [HSS.out]; exact HA.out.put H4.out⟩
      case measure => simp [intOf]; omega
    have hge : ¬ ((k : Int) < (covR x gs).length) := by omega
    have HE := Lib.hid (show (szL (covR x gs)).take k = szL (covR x gs) from List.take_of_length_le (by rw [szL_len]; omega))
    rw [HE.out] at HM
    obtain ⟨_, ⟨_, t0, t1, t2, t3⟩, ⟨_, r0, r1, r2, r3, x0, x1, x2, x3⟩, ⟨_, k0, k1, f0, f1⟩⟩ := HM.out.ms
    have HSZ := Lib.hid (slL_on HM.out.row)
    have hsv := HSZ.out.out
    obtain ⟨aZ, cZ, rfl, _⟩ := hsv
    go_wp2_with (go_at_call 51; (with_reducible refine (HST.out _ aC cC (HSL.out _ HM.out.eq).rws HM.out.ms.below).mono ?_); rintro e w5 ⟨vI, rfl, ho5, hb5⟩; have HO5 := Lib.hid (slL_on ho5); have hsi := HO5.out.out; obtain ⟨aI, cI, rfl, _⟩ := hsi; have HB5 := Lib.hid hb5; have HM5 := Lib.hid (HM.out.to hb5); clear ho5 hb5 q0 q1 q2 q3 y0 y1 y2 y3 t0 t1 t2 t3 r0 r1 r2 r3 x0 x1 x2 x3 k0 k1 f0 f1; obtain ⟨_, _, ⟨_, q0, q1, q2, q3, y0, y1, y2, y3⟩, _⟩ := HM5.out; obtain ⟨_, ⟨_, t0, t1, t2, t3⟩, ⟨_, r0, r1, r2, r3, x0, x1, x2, x3⟩, ⟨_, k0, k1, f0, f1⟩⟩ := HM5.out.ms)
    obtain ⟨p1, p2, p3⟩ := (HM5.out.ms.far (p := ⟨w4.heap.size, 1, none⟩) H4.out (.slice aI (stR (covR x gs) x.init).length cI)).put (.slice aZ (szL (covR x gs)).length cZ) (.slice aI (stR (covR x gs) x.init).length cI) (.slice aG (asgR (covR x gs) x.goal).length cG) (.slice aO ms.length cO) (.int .i64 0) (.int .i64 0)
    have hw4 := H4.out
    have hr5 := HM.out.q.lt
    have hz5 := HB5.out.size
    have HEQ := Lib.hid (fun (a b : Nat) (V : World) (ha : w.heap.size + 3 ≤ a) (hab : b ≤ w4.heap.size ∨ w4.heap.size < a) (h : Eqr a b V w5) => show Eqr a b V (((((((w5.setCell ⟨w4.heap.size, 1, none⟩ (.slice aI (stR (covR x gs) x.init).length cI)).setCell ⟨w.heap.size + 1, 0, none⟩ (.slice aZ (szL (covR x gs)).length cZ)).setCell ⟨w.heap.size + 1, 1, none⟩ (.slice aI (stR (covR x gs) x.init).length cI)).setCell ⟨w.heap.size + 1, 2, none⟩ (.slice aG (asgR (covR x gs) x.goal).length cG)).setCell ⟨w.heap.size + 1, 3, none⟩ (.slice aO ms.length cO)).setCell ⟨w.heap.size + 2, 0, none⟩ (.int .i64 0)).setCell ⟨w.heap.size + 2, 1, none⟩ (.int .i64 0)) from
      ((((((h.set (p := ⟨w4.heap.size, 1, none⟩) (by rcases hab with h1 | h1; exact .inr h1; exact .inl h1) _).set (.inl (show w.heap.size + 1 < a by omega)) _).set (.inl (show w.heap.size + 1 < a by omega)) _).set (.inl (show w.heap.size + 1 < a by omega)) _).set (.inl (show w.heap.size + 1 < a by omega)) _).set (.inl (show w.heap.size + 2 < a by omega)) _).set (.inl (show w.heap.size + 2 < a by omega)) _)
    have HFS := Lib.hid (show (((((((w5.setCell ⟨w4.heap.size, 1, none⟩ (.slice aI (stR (covR x gs) x.init).length cI)).setCell ⟨w.heap.size + 1, 0, none⟩ (.slice aZ (szL (covR x gs)).length cZ)).setCell ⟨w.heap.size + 1, 1, none⟩ (.slice aI (stR (covR x gs) x.init).length cI)).setCell ⟨w.heap.size + 1, 2, none⟩ (.slice aG (asgR (covR x gs) x.goal).length cG)).setCell ⟨w.heap.size + 1, 3, none⟩ (.slice aO ms.length cO)).setCell ⟨w.heap.size + 2, 0, none⟩ (.int .i64 0)).setCell ⟨w.heap.size + 2, 1, none⟩ (.int .i64 0)).heap.size = w5.heap.size by simp [World.setCell])
    refine post_multi (g := w.heap.size + 1 + 1) (g2 := w.heap.size + 1) (a := .slice aZ (szL (covR x gs)).length cZ) (b := .slice aI (stR (covR x gs) x.init).length cI) (c := (.slice aG (asgR (covR x gs) x.goal).length cG)) (d := (.slice aO ms.length cO)) (x := .int .i64 0) (y := .int .i64 0) Tryd.results14 rfl rfl ?_ ?_ ?_ ?_ ?_ ?_
    · exact p1.c0
    · exact p1.c1
    · exact p1.c2
    · exact p1.c3
    · exact p2
    · refine ⟨_, _, _, _, .slice aF fr.length cF, by rw [H.out]; rfl, p3, ?_⟩
      rw [HT2.out]
      have g1 := ((HSZ.out.mv (HEQ.out (w4.heap.size + 1) wr.heap.size wr (by omega) (.inr (Nat.lt_succ_self _)) ((Eqr.refl _ _ _).below HB5.out (Nat.le_refl _)))).wide (a2 := w.heap.size) (b2 := w5.heap.size) (by omega) hz5)
      have g2 := ((HO5.out.mv (HEQ.out wr.heap.size w5.heap.size w5 (by omega) (.inr (by omega)) (Eqr.refl _ _ _))).wide (a2 := w.heap.size) (b2 := w5.heap.size) (by omega) (Nat.le_refl _))
      have g3 := ((HPA.out.mv (HEQ.out (w.heap.size + 3) w4.heap.size w4 (Nat.le_refl _) (.inl (Nat.le_refl _)) (HM5.out.eq))).wide (a2 := w.heap.size) (b2 := w5.heap.size) (by omega) (by omega))
      have g4 := (g1.and (g2.and g3)).map (Q := fun W => SlL (szL (covR x gs)) (.slice aZ (szL (covR x gs)).length cZ) W ∧ SlL (stR (covR x gs) x.init) (.slice aI (stR (covR x gs) x.init).length cI) W ∧ SlA (asgR (covR x gs) x.goal) (.slice aG (asgR (covR x gs) x.goal).length cG) W ∧ SlM ms (.slice aO ms.length cO) W ∧ SlL fr (.slice aF fr.length cF) W) (fun W q => ⟨q.1, q.2.1, q.2.2.2.1, q.2.2.2.2.1, q.2.2.2.2.2⟩)
      rw [← HFS.out] at g4
      exact g4
/-- Multi answers as muF and muT say. -/
theorem multi_any (x : Tsk) (gs : List (List Int)) (A : Option Addr) (c : Nat) (w : World) (hX : TskIn w w.heap.size x) (hG : Rws w w.heap.size A gs) (hgl : gs.length ≤ c) (hgm : c ≤ maxLen) (hT : TabIn w) : Calls Tryd.prog 14 #[.agg #[.int .i64 x.n, .slice x.ai x.init.length x.ci, .slice x.ag x.goal.length x.cg, .slice x.ao x.ops.length x.co], .slice A gs.length c] w (MuP w x gs) := by
  by_cases hb : (gfF x gs).1 ≠ 0 ∨ (covR x gs).length = 0 ∨ 8 < (covR x gs).length ∨ bgA (covR x gs) = true
  · exact multi_bad x gs A c w hX hG hgl hgm hT hb
  have h1 : (gfF x gs).1 = 0 := Classical.byContradiction fun h => hb (.inl h)
  have h2 : ¬ (covR x gs).length = 0 := fun h => hb (.inr (.inl h))
  have h3 : ¬ 8 < (covR x gs).length := fun h => hb (.inr (.inr (.inl h)))
  have h4 : bgA (covR x gs) = false := by
    cases e : bgA (covR x gs)
    · rfl
    · exact absurd (.inr (.inr (.inr e))) hb
  cases hcg : crB (covR x gs) x.goal
  · cases hmk : mkN x.ops (covR x gs) x.ops.length with
    | none => exact multi_many x gs A c w hX hG hgl hgm hT h1 h2 h3 h4 hcg hmk
    | some q => obtain ⟨ms, fr⟩ := q; exact multi_good x gs A c w hX hG hgl hgm hT h1 h2 h3 h4 hcg ms fr hmk
  · exact multi_goal x gs A c w hX hG hgl hgm hT h1 h2 h3 h4 hcg
end Go.Proofs.YtiaobanloakplaaDoor
