/- Package encode: State. -/
import Derived.Test.YtiaobanloakplaaDoorEcv
namespace Go.Proofs.YtiaobanloakplaaDoor
open Go.RowKit
set_option linter.unusedSimpArgs false
set_option linter.unusedVariables false
set_option maxRecDepth 100000

theorem covN_cls (L : List (List Int)) : ∀ n, ∀ k, k < (covN L n).1.length → IsS (rw_ (covN L n).1 k) 24 ∧ rw_ (covN L n).1 k ≠ []
  | 0, k, h => by simp [covN] at h
  | n + 1, k, h => by
    rw [covN] at h ⊢
    split at h
    · rename_i hd
      rw [if_pos hd]
      exact covN_cls L n k h
    · rename_i hd
      rw [if_neg hd]
      simp only at h ⊢
      rw [List.length_append, List.length_singleton] at h
      by_cases e : k < (covN L n).1.length
      · rw [rw_snoc_lt e]; exact covN_cls L n k e
      · obtain rfl : k = (covN L n).1.length := by omega
        rw [rw_snoc_last]
        exact ⟨difL_isS _ _, hd⟩
theorem covR_bd {x : Tsk} {gs : List (List Int)} (h : (gfF x gs).1 = 0) : (covR x gs).length ≤ 48 ∧ ∀ k, k < (covR x gs).length → (rw_ (covR x gs) k).length ≤ 24 := by
  obtain ⟨_, htk, hg24, _⟩ := gfF_zero h
  have hv := tkF_val htk
  unfold covR
  rw [if_pos h]
  refine ⟨?_, fun k hk => isS_len (n := 24) (covN_cls _ _ k hk).1⟩
  have := covN_len (covS gs x.n.toNat) (gs.length + x.n.toNat)
  have := hv.le
  unfold cov
  omega
def seF (x : Tsk) (gs : List (List Int)) (s : List Int) : Int × Int := if (gfF x gs).1 ≠ 0 then gfF x gs else if setB s x.n = false then (5, -4) else if crB (covR x gs) s = true then (13, -9) else (0, 0)
def seR (x : Tsk) (gs : List (List Int)) (s : List Int) : List Int := if (seF x gs s).1 = 0 then stV (covR x gs) s else []
def SeP (w : World) (x : Tsk) (gs : List (List Int)) (s : List Int) (e : Ending) (w' : World) : Prop := ∃ v, e = .returned (.tuple #[v, faultV (seF x gs s)]) ∧ Below w.heap.size w w' ∧ On (Rg w.heap.size w'.heap.size) w' (SlL (seR x gs s) v)
theorem slL_nil (F : Nat → Prop) (W : World) : On F W (SlL [] (.slice none 0 0)) := On.always fun W => ⟨none, 0, rfl, ⟨nums_nil _ _ _, by simp, by simp [maxLen]⟩, fun _ => rfl⟩
theorem seP_bad {w W : World} {x : Tsk} {gs : List (List Int)} {s : List Int} {r : Int × Int} (h : seF x gs s = r) (hr : r.1 ≠ 0) (hb : Below w.heap.size w W) : SeP w x gs s (.returned (.tuple #[.slice none 0 0, faultV r])) W := by
  refine ⟨_, by rw [h], hb, ?_⟩
  unfold seR
  rw [h, if_neg hr]
  exact slL_nil _ _
set_option maxHeartbeats 4000000 in
theorem State_any (x : Tsk) (gs : List (List Int)) (s : List Int) (A B : Option Addr) (c d : Nat) (w : World) (hX : TskIn w w.heap.size x) (hG : Rws w w.heap.size A gs) (hgl : gs.length ≤ c) (hgm : c ≤ maxLen) (hS : Lst w w.heap.size B d s) (hT : TabIn w) :
    Calls Tryd.prog 20 #[.agg #[.int .i64 x.n, .slice x.ai x.init.length x.ci, .slice x.ag x.goal.length x.cg, .slice x.ao x.ops.length x.co], .slice A gs.length c, .slice B s.length d] w (SeP w x gs s) := by
  have hB2 : Below w.heap.size w ((w.alloc (.cells #[.int .i64 x.n, .slice x.ai x.init.length x.ci, .slice x.ag x.goal.length x.cg, .slice x.ao x.ops.length x.co] 25)).alloc (.cells #[.int .i64 0, .int .i64 0] 28)) := by go_grown
  have HK := Lib.hid (cover_any x gs A c _ (hX.to hB2 hB2.size) (hG.to hB2 hB2.size) hgl hgm (hT.to hB2 (Nat.le_refl _)))
  have HS := Lib.hid (fun (W : World) (h : Below w.heap.size w W) => hS.to h h.size)
  clear hX hG hB2 hgm hgl hT hS
  have hF0 := Lib.hid (fr1_new w x 25 28)
  obtain ⟨r, hr⟩ : ∃ r, gfF x gs = r := ⟨_, rfl⟩
  have HR := Lib.hid hr
  by_cases hz : r.1 = 0
  case neg =>
    have hne : (r.1 != 0) = true := by simpa using hz
    have hne2 : (r.1 == 0) = false := by simpa using hz
    have H := Lib.hid (show seF x gs s = r by unfold seF; rw [hr, if_pos hz])
    have HZ := Lib.hid hz
    clear hz hr
    go_enter Tryd.func20, Tryd.ntmps20
    go_wp2_with (go_at_call 9; (with_reducible refine HK.out.mono ?_); rintro e w1 ⟨vC, he, hbw, hon⟩; rw [HR.out] at he; subst he; have hcl := hon.out; obtain ⟨aC, cC, rfl, hrn, _⟩ := hcl; have HRN := Lib.hid hrn; have hF := Lib.hid ((hF0.out.to hbw).alloc (.cells #[.int .i64 r.1, .int .i64 r.2] 28)); clear hbw hon hrn; obtain ⟨_, ⟨_, t0, t1, t2, t3⟩, ⟨_, k0, k1, f0, f1⟩⟩ := hF.out)
    go_region
    all_goals
      go_wp2
      have htw := hF.out.two
      have hbe := hF.out.below
      refine post_with_fault (g := w.heap.size + 1) (x := .int .i64 r.1) (y := .int .i64 r.2) Tryd.results20 rfl ?_ (seP_bad H.out HZ.out ?_)
      · (repeat' (first | (with_reducible assumption) | (with_reducible exact two_new _ _ _ _) | (with_reducible exact (two_new _ _ _ _).pair) | (with_reducible exact Two.pair ‹_›) | (with_reducible refine Pair.set ?_ _ _) | (with_reducible refine Two.alloc ?_ _) | (with_reducible refine Pair.alloc ?_ _) | (with_reducible refine two1 ?_) | (with_reducible refine twoN ?_ _) | (with_reducible refine Pair.drew ?_) | (with_reducible refine Pair.drewN ?_ _) | (with_reducible refine Two.far ?_ ?_ _) | (with_reducible refine Pair.far ?_ ?_ _) | (simp; omega)))
      · (repeat' (first | (with_reducible assumption) | (with_reducible exact Below.refl _ _) | (with_reducible refine belowN ?_ _) | (with_reducible refine Below.alloc ?_ ?_ _) | (with_reducible refine Below.drew ?_) | (with_reducible refine Below.setCell ?_ ?_ _) | go_size))
  have hz0 : (gfF x gs).1 = 0 := by rw [hr]; exact hz
  obtain ⟨hr0, htk, _, _⟩ := gfF_zero hz0
  have hv := tkF_val htk
  have hr1 : r = (0, 0) := hr.symm.trans hr0
  have hne : (r.1 != 0) = false := by simp [hr1]
  have hne2 : (r.1 == 0) = true := by simp [hr1]
  have hne3 : (r.2 != 0) = false := by simp [hr1]
  have hne4 : (r.2 == 0) = true := by simp [hr1]
  have h24 : x.n ≤ 24 := by have := hv.eq; have := hv.le; omega
  have HSE := Lib.hid (show seF x gs s = if setB s x.n = false then (5, -4) else if crB (covR x gs) s = true then (13, -9) else (0, 0) by unfold seF; rw [if_neg (by simpa using hz0)])
  have HIS := Lib.hid (fun (W : World) (h : Below w.heap.size w W) => isSet_any B d s x.n W h24 (HS.out W h).nums (HS.out W h).len)
  have HBD := Lib.hid (covR_bd hz0)
  clear hz hr hz0 hr0 htk hv hr1 h24
  cases hsb : setB s x.n
  case false =>
    rw [hsb] at HIS
    have H := Lib.hid (show seF x gs s = (5, -4) by rw [HSE.out, if_pos hsb])
    clear hsb
    go_enter Tryd.func20, Tryd.ntmps20
    go_wp2_with (first | (go_at_call 9; (with_reducible refine HK.out.mono ?_); rintro e w1 ⟨vC, he, hbw, hon⟩; rw [HR.out] at he; subst he; have hcl := hon.out; obtain ⟨aC, cC, rfl, hrn, _⟩ := hcl; have HRN := Lib.hid hrn; have hF := Lib.hid ((hF0.out.to hbw).alloc (.cells #[.int .i64 r.1, .int .i64 r.2] 28)); clear hbw hon hrn; obtain ⟨_, ⟨_, t0, t1, t2, t3⟩, ⟨_, k0, k1, f0, f1⟩⟩ := hF.out) | (go_at_call 53; (with_reducible refine (HIS.out _ hF.out.below).mono ?_); rintro e w2 ⟨rfl, rfl⟩))
    refine post_with_fault (g := w.heap.size + 1) (x := .int .i64 5) (y := .int .i64 (-4)) Tryd.results20 rfl (hF.out.two.set _ _) (seP_bad H.out (by decide) ?_)
    exact (hF.out.below.setCell (by simp) _).setCell (by simp) _
  rw [hsb] at HIS
  have HSE2 := Lib.hid (show seF x gs s = if crB (covR x gs) s = true then (13, -9) else (0, 0) by rw [HSE.out, if_neg (by simp [hsb])])
  have HSA := Lib.hid (fun (W : World) (aC : Option Addr) (cC : Nat) (h : Rws W W.heap.size aC (covR x gs)) (hb : Below w.heap.size w W) => state_any aC B cC d (covR x gs) s W h (HS.out W hb) HBD.out.1 HBD.out.2)
  clear hsb
  cases hcr : crB (covR x gs) s
  case true =>
    rw [hcr] at HSA
    have H := Lib.hid (show seF x gs s = (13, -9) by rw [HSE2.out, if_pos hcr])
    clear hcr
    go_enter Tryd.func20, Tryd.ntmps20
    go_wp2_with (first | (go_at_call 9; (with_reducible refine HK.out.mono ?_); rintro e w1 ⟨vC, he, hbw, hon⟩; rw [HR.out] at he; subst he; have hcl := hon.out; obtain ⟨aC, cC, rfl, hrn, _⟩ := hcl; have HRN := Lib.hid hrn; have hF := Lib.hid ((hF0.out.to hbw).alloc (.cells #[.int .i64 r.1, .int .i64 r.2] 28)); clear hbw hon hrn; obtain ⟨_, ⟨_, t0, t1, t2, t3⟩, ⟨_, k0, k1, f0, f1⟩⟩ := hF.out) | (go_at_call 53; (with_reducible refine (HIS.out _ hF.out.below).mono ?_); rintro e w2 ⟨rfl, rfl⟩) | (go_at_call 51; (with_reducible refine (HSA.out _ aC cC ((HRN.out.to ((Below.refl _ _).alloc (Nat.le_refl _) _)).rws) hF.out.below).mono ?_); rintro e w3 ⟨v3, rfl, ho3, hb3⟩; have HO3 := Lib.hid ho3; have hs3 := slL_own ho3; obtain ⟨a3, c3, rfl, _⟩ := hs3; have hF3 := Lib.hid (hF.out.to hb3); have HBC := Lib.hid hF.out.below.size; clear ho3; obtain ⟨_, ⟨_, y0, y1, y2, y3⟩, ⟨_, z0, z1, g0, g1⟩⟩ := hF3.out))
    refine post_with_fault (g := w.heap.size + 1) (x := .int .i64 13) (y := .int .i64 (-9)) Tryd.results20 rfl (hF3.out.two.set _ _) (seP_bad H.out (by decide) ?_)
    exact (hF3.out.below.setCell (by simp) _).setCell (by simp) _
  case false =>
    rw [hcr] at HSA
    have H := Lib.hid (show seF x gs s = (0, 0) by rw [HSE2.out, if_neg (by simp [hcr])])
    have H2 := Lib.hid (show seR x gs s = stR (covR x gs) s by unfold seR stR; rw [H.out, hcr]; rfl)
    clear hcr
    go_enter Tryd.func20, Tryd.ntmps20
    go_wp2_with (first | (go_at_call 9; (with_reducible refine HK.out.mono ?_); rintro e w1 ⟨vC, he, hbw, hon⟩; rw [HR.out] at he; subst he; have hcl := hon.out; obtain ⟨aC, cC, rfl, hrn, _⟩ := hcl; have HRN := Lib.hid hrn; have hF := Lib.hid ((hF0.out.to hbw).alloc (.cells #[.int .i64 r.1, .int .i64 r.2] 28)); clear hbw hon hrn; obtain ⟨_, ⟨_, t0, t1, t2, t3⟩, ⟨_, k0, k1, f0, f1⟩⟩ := hF.out) | (go_at_call 53; (with_reducible refine (HIS.out _ hF.out.below).mono ?_); rintro e w2 ⟨rfl, rfl⟩) | (go_at_call 51; (with_reducible refine (HSA.out _ aC cC ((HRN.out.to ((Below.refl _ _).alloc (Nat.le_refl _) _)).rws) hF.out.below).mono ?_); rintro e w3 ⟨v3, rfl, ho3, hb3⟩; have HO3 := Lib.hid ho3; have hs3 := slL_own ho3; obtain ⟨a3, c3, rfl, _⟩ := hs3; have hF3 := Lib.hid (hF.out.to hb3); have HBC := Lib.hid hF.out.below.size; clear ho3; obtain ⟨_, ⟨_, y0, y1, y2, y3⟩, ⟨_, z0, z1, g0, g1⟩⟩ := hF3.out))
    refine post_with_fault (g := w.heap.size + 1) (x := .int .i64 0) (y := .int .i64 0) Tryd.results20 rfl (hF3.out.two.set _ _) ?_
    refine ⟨.slice a3 (stR (covR x gs) s).length c3, by rw [H.out]; rfl, (hF3.out.below.setCell (by simp) _).setCell (by simp) _, ?_⟩
    rw [H2.out]
    have h1 := HBC.out
    have h2 := hF.out.two.lt
    exact ((slL_on HO3.out).mv (((Eqr.refl _ _ _).set (.inl h2) _).set (.inl h2) _)).wide h1 (by first | (simp; done) | (simp; omega) | omega | (simp [World.setCell]; done) | (simp [World.setCell]; omega))
end Go.Proofs.YtiaobanloakplaaDoor
