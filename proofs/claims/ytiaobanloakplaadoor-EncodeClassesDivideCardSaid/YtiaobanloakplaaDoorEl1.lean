/- The law EncodeStateMatchesSpec. -/
import Derived.Test.YtiaobanloakplaaDoorEey
import Derived.Test.YtiaobanloakplaaDoorErc
namespace Go.Proofs.YtiaobanloakplaaDoor
open Go.RowKit
set_option linter.unusedSimpArgs false
set_option linter.unusedVariables false
set_option maxRecDepth 100000

/-- The law's task and its wanted fault. -/
structure LW (w W : World) (x : Tsk) (g : Nat) (u v : Int) : Prop where
  below : Below w.heap.size w W
  box : TBox W w.heap.size x
  gt : w.heap.size < g
  two : Two W g (.int .i64 u) (.int .i64 v)
theorem LW.to {w W W' : World} {x : Tsk} {g : Nat} {u v : Int} (h : LW w W x g u v) (hb : Below W.heap.size W W') : LW w W' x g u v :=
  ⟨h.below.trans (hb.mono h.below.size), h.box.to hb h.box.lt, h.gt, two_to h.two hb⟩
theorem LW.set {w W : World} {x : Tsk} {g : Nat} {u v : Int} (h : LW w W x g u v) (u' v' : Int) : LW w ((W.setCell ⟨g, 0, none⟩ (.int .i64 u')).setCell ⟨g, 1, none⟩ (.int .i64 v')) x g u' v' := by
  have hg := h.gt
  exact ⟨(h.below.setCell (by simp; omega) _).setCell (by simp; omega) _, (h.box.far (by simp; omega) _).far (by simp; omega) _, hg, h.two.set _ _⟩
theorem lw_new {w wF : World} {x : Tsk} (hb : Below w.heap.size w wF) (hx : TBox wF w.heap.size x) (u v : Int) : LW w (wF.alloc (.cells #[.int .i64 u, .int .i64 v] 28)) x wF.heap.size u v :=
  ⟨hb.alloc hb.size _, hx.to ((Below.refl _ _).alloc (Nat.le_refl _) _) hx.lt, hx.lt, two_new _ _ _ _⟩
theorem lst_al {W : World} {a : Option Addr} {c : Nat} {l : List Int} (h : Lst W W.heap.size a c l) (o : Obj) : Lst (W.alloc o) (W.alloc o).heap.size a c l := h.to (al_b W o) (al_b W o).size
theorem lst_nil0 (W : World) : Lst W W.heap.size none 0 [] := ⟨nums_nil _ _ _, by simp, by simp [maxLen]⟩
set_option maxHeartbeats 4000000 in
theorem state_law (x : Tsk) (gs : List (List Int)) (s : List Int) (A B : Option Addr) (c d : Nat) (w : World) (hX : TskIn w w.heap.size x) (hG : RwsN w A gs) (hgl : gs.length ≤ c) (hgm : c ≤ maxLen) (hS : Lst w w.heap.size B d s) (hT : TabIn w) : Calls Tryd.prog 4 #[.agg #[.int .i64 x.n, .slice x.ai x.init.length x.ci, .slice x.ag x.goal.length x.cg, .slice x.ao x.ops.length x.co], .slice A gs.length c, .slice B s.length d] w fun e w' => e = .returned (.bool true) ∧ Below w.heap.size w w' := by
  have HB0 := Lib.hid (al_b w (.cells #[.int .i64 x.n, .slice x.ai x.init.length x.ci, .slice x.ag x.goal.length x.cg, .slice x.ao x.ops.length x.co] 25))
  have HBX := Lib.hid (tbox_new w x 25)
  have hGF := groupsFault_any x gs A c _ (hX.to HB0.out HB0.out.size) (hG.to (al_b w _)).rws hgl hgm
  have hSE := fun (W : World) (h : Below w.heap.size w W) => State_any x gs s A B c d W (hX.to h h.size) ((hG.rws).to h h.size) hgl hgm (hS.to h h.size) (hT.to h (Nat.le_refl _))
  have HT := Lib.hid (fun (W : World) (h : Below w.heap.size w W) => hT.to h (Nat.le_refl _))
  by_cases hz : (gfF x gs).1 = 0
  case neg =>
    have e1 : seF x gs s = gfF x gs := by unfold seF; rw [if_pos hz]
    have e2 : seR x gs s = [] := by unfold seR; rw [e1, if_neg hz]
    unfold SeP at hSE
    rw [e1, e2] at hSE
    generalize gfF x gs = r at *
    have hne : (r.1 == 0) = false := by simpa using hz
    have hne2 : (r.1 != 0) = true := by simpa using hz
    have HGF := Lib.hid hGF
    have HSE := Lib.hid hSE
    clear hX hG hgl hgm hS hT e1 e2 hGF hSE hz
    go_enter Tryd.func4, Tryd.ntmps4
    go_wp2_with (first | (go_at_call 8; (with_reducible refine HGF.out.mono ?_); rintro e w1 ⟨rfl, hb⟩; have hM := Lib.hid (lw_new (HB0.out.trans (hb.mono HB0.out.size)) (HBX.out.to hb HBX.out.lt) r.1 r.2); clear hb; obtain ⟨_, ⟨_, t0, t1, t2, t3⟩, _, ⟨_, k0, k1, f0, f1⟩⟩ := hM.out) | (go_at_call 20; skip; (with_reducible refine (HSE.out _ hM.out.below).mono ?_); rintro e w5 ⟨v5, rfl, hb, hon⟩; obtain ⟨a5, c5, rfl, hl5⟩ := hon.out; have hM := Lib.hid ((hM.out.to hb).to (al_b _ (.cells #[.int .i64 r.1, .int .i64 (r.2)] 28))); have hT5 := Lib.hid (two_new w5 (.int .i64 r.1) (.int .i64 (r.2)) 28); have hL5 := Lib.hid (lst_al hl5.lst (.cells #[.int .i64 r.1, .int .i64 (r.2)] 28)); skip; clear hb hon hl5; clear t0 t1 t2 t3 k0 k1 f0 f1; obtain ⟨_, ⟨_, t0, t1, t2, t3⟩, _, ⟨_, k0, k1, f0, f1⟩⟩ := hM.out; obtain ⟨_, m0, m1, _, _⟩ := hT5.out) | (go_at_call 10; refine (encodes_any _ (HT.out _ hM.out.below)).mono ?_; rintro e w6 ⟨rfl, hb⟩; have hM := Lib.hid (hM.out.to hb); have hT5 := Lib.hid (two_to hT5.out hb); have hL5 := Lib.hid (hL5.out.to hb hb.size); skip; clear hb m0 m1; clear t0 t1 t2 t3 k0 k1 f0 f1; obtain ⟨_, ⟨_, t0, t1, t2, t3⟩, _, ⟨_, k0, k1, f0, f1⟩⟩ := hM.out; obtain ⟨_, m0, m1, _, _⟩ := hT5.out) | (go_at_call 16; (with_reducible refine (show Calls _ _ #[.slice a5 0 c5, .slice none 0 0] _ _ from ints_same a5 none c5 0 [] [] rfl _ hL5.out (lst_nil0 _)).mono ?_); rintro e w7 ⟨rfl, hb⟩; have hM := Lib.hid (hM.out.to hb); clear hb; clear t0 t1 t2 t3 k0 k1 f0 f1; obtain ⟨_, ⟨_, t0, t1, t2, t3⟩, _, ⟨_, k0, k1, f0, f1⟩⟩ := hM.out))
    all_goals
      go_ret
      exact ⟨rfl, hM.out.below⟩
  obtain ⟨hz0, htk, hg24, _⟩ := gfF_zero hz
  have hval := tkF_val htk
  have hn0 := hval.eq
  have hn24 := hval.le
  have hSO := fun (W : World) (h : Below w.heap.size w W) => stateOk_any x B d s W (by omega) (by omega) (hS.to h h.size)
  by_cases hs : setB s x.n = true
  case neg =>
    have hs : setB s x.n = false := by simpa using hs
    have e1 : seF x gs s = (5, -4) := by unfold seF; rw [if_neg (by simp [hz]), if_pos hs]
    have e2 : seR x gs s = [] := by unfold seR; rw [e1, if_neg (by decide)]
    unfold SeP at hSE
    rw [e1, e2] at hSE
    rw [hs] at hSO
    rw [hz0] at hGF
    have HGF := Lib.hid hGF
    have HSE := Lib.hid hSE
    have HSO := Lib.hid hSO
    clear hX hG hgl hgm hS hT e1 e2 hGF hSE hz hs hSO hval htk hz0 hn0 hn24 hg24
    go_enter Tryd.func4, Tryd.ntmps4
    go_wp2_with (first | (go_at_call 8; (with_reducible refine HGF.out.mono ?_); rintro e w1 ⟨rfl, hb⟩; have hM := Lib.hid (lw_new (HB0.out.trans (hb.mono HB0.out.size)) (HBX.out.to hb HBX.out.lt) 0 0); clear hb; obtain ⟨_, ⟨_, t0, t1, t2, t3⟩, _, ⟨_, k0, k1, f0, f1⟩⟩ := hM.out) | (go_at_call 17; (with_reducible refine (HSO.out _ hM.out.below).mono ?_); rintro e w2 ⟨rfl, hb⟩; have hM := Lib.hid (hM.out.to hb); clear hb; clear t0 t1 t2 t3 k0 k1 f0 f1; obtain ⟨_, ⟨_, t0, t1, t2, t3⟩, _, ⟨_, k0, k1, f0, f1⟩⟩ := hM.out) | (go_at_call 18; refine (at_any _ _ _).mono ?_; rintro e w3 ⟨rfl, hb⟩; have hM := Lib.hid (hM.out.to hb); clear hb; clear t0 t1 t2 t3 k0 k1 f0 f1; obtain ⟨_, ⟨_, t0, t1, t2, t3⟩, _, ⟨_, k0, k1, f0, f1⟩⟩ := hM.out) | (go_at_call 20; (have hM := Lib.hid (hM.out.set (5) (-4))); (with_reducible refine (HSE.out _ hM.out.below).mono ?_); rintro e w5 ⟨v5, rfl, hb, hon⟩; obtain ⟨a5, c5, rfl, hl5⟩ := hon.out; have hM := Lib.hid ((hM.out.to hb).to (al_b _ (.cells #[.int .i64 5, .int .i64 (-4)] 28))); have hT5 := Lib.hid (two_new w5 (.int .i64 5) (.int .i64 (-4)) 28); have hL5 := Lib.hid (lst_al hl5.lst (.cells #[.int .i64 5, .int .i64 (-4)] 28)); skip; clear hb hon hl5; clear t0 t1 t2 t3 k0 k1 f0 f1; obtain ⟨_, ⟨_, t0, t1, t2, t3⟩, _, ⟨_, k0, k1, f0, f1⟩⟩ := hM.out; obtain ⟨_, m0, m1, _, _⟩ := hT5.out) | (go_at_call 10; refine (encodes_any _ (HT.out _ hM.out.below)).mono ?_; rintro e w6 ⟨rfl, hb⟩; have hM := Lib.hid (hM.out.to hb); have hT5 := Lib.hid (two_to hT5.out hb); have hL5 := Lib.hid (hL5.out.to hb hb.size); skip; clear hb m0 m1; clear t0 t1 t2 t3 k0 k1 f0 f1; obtain ⟨_, ⟨_, t0, t1, t2, t3⟩, _, ⟨_, k0, k1, f0, f1⟩⟩ := hM.out; obtain ⟨_, m0, m1, _, _⟩ := hT5.out) | (go_at_call 16; (with_reducible refine (show Calls _ _ #[.slice a5 0 c5, .slice none 0 0] _ _ from ints_same a5 none c5 0 [] [] rfl _ hL5.out (lst_nil0 _)).mono ?_); rintro e w7 ⟨rfl, hb⟩; have hM := Lib.hid (hM.out.to hb); clear hb; clear t0 t1 t2 t3 k0 k1 f0 f1; obtain ⟨_, ⟨_, t0, t1, t2, t3⟩, _, ⟨_, k0, k1, f0, f1⟩⟩ := hM.out))
    all_goals
      go_ret
      exact ⟨rfl, hM.out.below⟩
  have hIS : ∀ k, k < gs.length → IsS (rw_ gs k) 24 := fun k hk => (setB_iff.1 ((gfF_zero hz).2.2.2 k hk).1).mono (by omega)
  have hCO := fun (W : World) (h : Below w.heap.size w W) => coverOf_any x gs A c x.n.toNat W (by
    intro h0; obtain ⟨b, o, e, hlt, hk⟩ := hG h0; exact ⟨b, o, e, Nat.lt_of_lt_of_le hlt h.size, fun k h1 => by obtain ⟨ak, ck, q1, q2⟩ := hk k h1; exact ⟨ak, ck, (h.cell (p := ⟨b, o + k, none⟩) hlt).trans q1, q2.to h⟩⟩) (by omega) hg24 (by omega) hIS
  obtain ⟨hc48, hc24⟩ := covR_bd hz
  have hcv : covR x gs = cov gs x.n.toNat := by unfold covR; rw [if_pos hz]
  rw [← hcv] at hCO
  have hVS := fun (a : Option Addr) (c' : Nat) (W : World) (h : Below w.heap.size w W) (hr : Rws W W.heap.size a (covR x gs)) => valuesOf2_any a B c' d (covR x gs) s W hr (hS.to h h.size) (by omega) (fun k hk => by have := hc24 k hk; omega)
  rw [hs] at hSO
  rw [hz0] at hGF
  by_cases hc : crB (covR x gs) s = true
  · have e1 : seF x gs s = (13, -9) := by unfold seF; rw [if_neg (by simp [hz]), if_neg (by simp [hs]), if_pos hc]
    have e2 : seR x gs s = [] := by unfold seR; rw [e1, if_neg (by decide)]
    unfold SeP at hSE
    rw [e1, e2] at hSE
    rw [hc] at hVS
    have HGF := Lib.hid hGF
    have HSE := Lib.hid hSE
    have HSO := Lib.hid hSO
    have HCO := Lib.hid hCO
    have HVS := Lib.hid hVS
    clear hX hG hgl hgm hS hT e1 e2 hGF hSE hz hs hSO hval htk hz0 hn0 hn24 hg24 hIS hCO hc48 hc24 hcv hVS hc
    generalize covR x gs = cs at *
    generalize stV cs s = vs at *
    go_enter Tryd.func4, Tryd.ntmps4
    go_wp2_with (first | (go_at_call 8; (with_reducible refine HGF.out.mono ?_); rintro e w1 ⟨rfl, hb⟩; have hM := Lib.hid (lw_new (HB0.out.trans (hb.mono HB0.out.size)) (HBX.out.to hb HBX.out.lt) 0 0); clear hb; obtain ⟨_, ⟨_, t0, t1, t2, t3⟩, _, ⟨_, k0, k1, f0, f1⟩⟩ := hM.out) | (go_at_call 17; (with_reducible refine (HSO.out _ hM.out.below).mono ?_); rintro e w2 ⟨rfl, hb⟩; have hM := Lib.hid (hM.out.to hb); clear hb; clear t0 t1 t2 t3 k0 k1 f0 f1; obtain ⟨_, ⟨_, t0, t1, t2, t3⟩, _, ⟨_, k0, k1, f0, f1⟩⟩ := hM.out) | (go_at_call 12; (with_reducible refine (HCO.out _ hM.out.below).mono ?_); rintro e w3 ⟨v3, rfl, hon, hb⟩; obtain ⟨a3, c3, rfl, hr3, _, _⟩ := hon.out; have hM := Lib.hid (hM.out.to hb); have hR3 := Lib.hid hr3; clear hb hon hr3; clear t0 t1 t2 t3 k0 k1 f0 f1; obtain ⟨_, ⟨_, t0, t1, t2, t3⟩, _, ⟨_, k0, k1, f0, f1⟩⟩ := hM.out) | (go_at_call 19; (with_reducible refine (HVS.out a3 c3 _ hM.out.below hR3.out.rws).mono ?_); rintro e w4 ⟨v4, rfl, ho, hb⟩; have hs4 := slL_own ho; obtain ⟨a4, c4, rfl, hl4⟩ := hs4; have hM := Lib.hid (hM.out.to hb); have hL4 := Lib.hid hl4.lst; clear hb ho hl4; clear t0 t1 t2 t3 k0 k1 f0 f1; obtain ⟨_, ⟨_, t0, t1, t2, t3⟩, _, ⟨_, k0, k1, f0, f1⟩⟩ := hM.out) | (go_at_call 18; refine (at_any _ _ _).mono ?_; rintro e w3 ⟨rfl, hb⟩; have hM := Lib.hid (hM.out.to hb); clear hb; clear t0 t1 t2 t3 k0 k1 f0 f1; obtain ⟨_, ⟨_, t0, t1, t2, t3⟩, _, ⟨_, k0, k1, f0, f1⟩⟩ := hM.out) | (go_at_call 20; (have hM := Lib.hid (hM.out.set (13) (-9))); (with_reducible refine (HSE.out _ hM.out.below).mono ?_); rintro e w5 ⟨v5, rfl, hb, hon⟩; obtain ⟨a5, c5, rfl, hl5⟩ := hon.out; have hM := Lib.hid ((hM.out.to hb).to (al_b _ (.cells #[.int .i64 13, .int .i64 (-9)] 28))); have hT5 := Lib.hid (two_new w5 (.int .i64 13) (.int .i64 (-9)) 28); have hL5 := Lib.hid (lst_al hl5.lst (.cells #[.int .i64 13, .int .i64 (-9)] 28)); skip; clear hb hon hl5; clear t0 t1 t2 t3 k0 k1 f0 f1; obtain ⟨_, ⟨_, t0, t1, t2, t3⟩, _, ⟨_, k0, k1, f0, f1⟩⟩ := hM.out; obtain ⟨_, m0, m1, _, _⟩ := hT5.out) | (go_at_call 10; refine (encodes_any _ (HT.out _ hM.out.below)).mono ?_; rintro e w6 ⟨rfl, hb⟩; have hM := Lib.hid (hM.out.to hb); have hT5 := Lib.hid (two_to hT5.out hb); have hL5 := Lib.hid (hL5.out.to hb hb.size); skip; clear hb m0 m1; clear t0 t1 t2 t3 k0 k1 f0 f1; obtain ⟨_, ⟨_, t0, t1, t2, t3⟩, _, ⟨_, k0, k1, f0, f1⟩⟩ := hM.out; obtain ⟨_, m0, m1, _, _⟩ := hT5.out) | (go_at_call 16; (with_reducible refine (show Calls _ _ #[.slice a5 0 c5, .slice none 0 0] _ _ from ints_same a5 none c5 0 [] [] rfl _ hL5.out (lst_nil0 _)).mono ?_); rintro e w7 ⟨rfl, hb⟩; have hM := Lib.hid (hM.out.to hb); clear hb; clear t0 t1 t2 t3 k0 k1 f0 f1; obtain ⟨_, ⟨_, t0, t1, t2, t3⟩, _, ⟨_, k0, k1, f0, f1⟩⟩ := hM.out))
    all_goals
      go_ret
      exact ⟨rfl, hM.out.below⟩
  · have hc : crB (covR x gs) s = false := by simpa using hc
    have e1 : seF x gs s = (0, 0) := by unfold seF; rw [if_neg (by simp [hz]), if_neg (by simp [hs]), if_neg (by simp [hc])]
    have e2 : seR x gs s = stV (covR x gs) s := by unfold seR; rw [e1, if_pos rfl]
    unfold SeP at hSE
    rw [e1, e2] at hSE
    rw [hc] at hVS
    have HGF := Lib.hid hGF
    have HSE := Lib.hid hSE
    have HSO := Lib.hid hSO
    have HCO := Lib.hid hCO
    have HVS := Lib.hid hVS
    clear hX hG hgl hgm hS hT e1 e2 hGF hSE hz hs hSO hval htk hz0 hn0 hn24 hg24 hIS hCO hc48 hc24 hcv hVS hc
    generalize covR x gs = cs at *
    generalize stV cs s = vs at *
    go_enter Tryd.func4, Tryd.ntmps4
    go_wp2_with (first | (go_at_call 8; (with_reducible refine HGF.out.mono ?_); rintro e w1 ⟨rfl, hb⟩; have hM := Lib.hid (lw_new (HB0.out.trans (hb.mono HB0.out.size)) (HBX.out.to hb HBX.out.lt) 0 0); clear hb; obtain ⟨_, ⟨_, t0, t1, t2, t3⟩, _, ⟨_, k0, k1, f0, f1⟩⟩ := hM.out) | (go_at_call 17; (with_reducible refine (HSO.out _ hM.out.below).mono ?_); rintro e w2 ⟨rfl, hb⟩; have hM := Lib.hid (hM.out.to hb); clear hb; clear t0 t1 t2 t3 k0 k1 f0 f1; obtain ⟨_, ⟨_, t0, t1, t2, t3⟩, _, ⟨_, k0, k1, f0, f1⟩⟩ := hM.out) | (go_at_call 12; (with_reducible refine (HCO.out _ hM.out.below).mono ?_); rintro e w3 ⟨v3, rfl, hon, hb⟩; obtain ⟨a3, c3, rfl, hr3, _, _⟩ := hon.out; have hM := Lib.hid (hM.out.to hb); have hR3 := Lib.hid hr3; clear hb hon hr3; clear t0 t1 t2 t3 k0 k1 f0 f1; obtain ⟨_, ⟨_, t0, t1, t2, t3⟩, _, ⟨_, k0, k1, f0, f1⟩⟩ := hM.out) | (go_at_call 19; (with_reducible refine (HVS.out a3 c3 _ hM.out.below hR3.out.rws).mono ?_); rintro e w4 ⟨v4, rfl, ho, hb⟩; have hs4 := slL_own ho; obtain ⟨a4, c4, rfl, hl4⟩ := hs4; have hM := Lib.hid (hM.out.to hb); have hL4 := Lib.hid hl4.lst; clear hb ho hl4; clear t0 t1 t2 t3 k0 k1 f0 f1; obtain ⟨_, ⟨_, t0, t1, t2, t3⟩, _, ⟨_, k0, k1, f0, f1⟩⟩ := hM.out) | (go_at_call 18; refine (at_any _ _ _).mono ?_; rintro e w3 ⟨rfl, hb⟩; have hM := Lib.hid (hM.out.to hb); clear hb; clear t0 t1 t2 t3 k0 k1 f0 f1; obtain ⟨_, ⟨_, t0, t1, t2, t3⟩, _, ⟨_, k0, k1, f0, f1⟩⟩ := hM.out) | (go_at_call 20; skip; (with_reducible refine (HSE.out _ hM.out.below).mono ?_); rintro e w5 ⟨v5, rfl, hb, hon⟩; obtain ⟨a5, c5, rfl, hl5⟩ := hon.out; have hM := Lib.hid ((hM.out.to hb).to (al_b _ (.cells #[.int .i64 0, .int .i64 (0)] 28))); have hT5 := Lib.hid (two_new w5 (.int .i64 0) (.int .i64 (0)) 28); have hL5 := Lib.hid (lst_al hl5.lst (.cells #[.int .i64 0, .int .i64 (0)] 28)); (have hL4 := Lib.hid (lst_al (hL4.out.to hb hb.size) (.cells #[.int .i64 0, .int .i64 (0)] 28))); clear hb hon hl5; clear t0 t1 t2 t3 k0 k1 f0 f1; obtain ⟨_, ⟨_, t0, t1, t2, t3⟩, _, ⟨_, k0, k1, f0, f1⟩⟩ := hM.out; obtain ⟨_, m0, m1, _, _⟩ := hT5.out) | (go_at_call 10; refine (encodes_any _ (HT.out _ hM.out.below)).mono ?_; rintro e w6 ⟨rfl, hb⟩; have hM := Lib.hid (hM.out.to hb); have hT5 := Lib.hid (two_to hT5.out hb); have hL5 := Lib.hid (hL5.out.to hb hb.size); (have hL4 := Lib.hid (hL4.out.to hb hb.size)); clear hb m0 m1; clear t0 t1 t2 t3 k0 k1 f0 f1; obtain ⟨_, ⟨_, t0, t1, t2, t3⟩, _, ⟨_, k0, k1, f0, f1⟩⟩ := hM.out; obtain ⟨_, m0, m1, _, _⟩ := hT5.out) | (go_at_call 16; (with_reducible refine (ints_same a5 a4 c5 c4 vs vs rfl _ hL5.out hL4.out).mono ?_); rintro e w7 ⟨rfl, hb⟩; have hM := Lib.hid (hM.out.to hb); clear hb; clear t0 t1 t2 t3 k0 k1 f0 f1; obtain ⟨_, ⟨_, t0, t1, t2, t3⟩, _, ⟨_, k0, k1, f0, f1⟩⟩ := hM.out))
    all_goals
      go_ret
      exact ⟨rfl, hM.out.below⟩
end Go.Proofs.YtiaobanloakplaaDoor
