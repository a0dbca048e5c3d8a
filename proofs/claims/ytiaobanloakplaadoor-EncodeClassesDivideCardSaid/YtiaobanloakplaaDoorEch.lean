/- Package encode: check. -/
import Derived.Test.YtiaobanloakplaaDoorEop
import Derived.Test.YtiaobanloakplaaDoorVip
import Derived.Test.YtiaobanloakplaaDoorKC
namespace Go.Proofs.YtiaobanloakplaaDoor
open Go.RowKit
set_option linter.unusedSimpArgs false
set_option linter.unusedVariables false
set_option maxRecDepth 100000

/-- What is wrong with a group of a valid task; with a list of groups; the fault of calls with groups. -/
def gcode (x : Tsk) (g : List Int) : Int := if setB g x.n = false then 5 else if indB x g = false then 16 else 0
def gfC (x : Tsk) (gs : List (List Int)) : Int := fz (gs.map (gcode x))
def gfF (x : Tsk) (gs : List (List Int)) : Int × Int := if (tkF x).1 ≠ 0 then tkF x else if 24 < gs.length then (2, -8) else if gfC x gs = 0 then (0, 0) else (gfC x gs, -8)
theorem ix_gcode {x : Tsk} {gs : List (List Int)} {k : Nat} (hk : k < gs.length) : ix (gs.map (gcode x)) k = gcode x (rw_ gs k) := ix_mapl hk
theorem gfC_at {x : Tsk} {gs : List (List Int)} {k : Nat} (hk : k < gs.length) (h0 : ∀ j, j < k → gcode x (rw_ gs j) = 0) (h : gcode x (rw_ gs k) ≠ 0) : gfC x gs = gcode x (rw_ gs k) := by
  unfold gfC
  rw [← ix_gcode hk]
  exact fz_at (fun j hj => by rw [ix_gcode (by omega)]; exact h0 j hj) (by rw [ix_gcode hk]; exact h)
theorem gfC_none {x : Tsk} {gs : List (List Int)} (h0 : ∀ j, j < gs.length → gcode x (rw_ gs j) = 0) : gfC x gs = 0 :=
  fz_none (fun j hj => by rw [ix_gcode (by simpa using hj)]; exact h0 j (by simpa using hj))
theorem gfC_all {x : Tsk} {gs : List (List Int)} (h : gfC x gs = 0) : ∀ j, j < gs.length → setB (rw_ gs j) x.n = true ∧ indB x (rw_ gs j) = true := by
  intro j hj
  have := fz_zero h j (by simpa using hj)
  rw [ix_gcode hj] at this
  unfold gcode at this
  split at this
  · cases this
  · rename_i h1
    split at this
    · cases this
    · rename_i h2
      exact ⟨by simpa using h1, by simpa using h2⟩
theorem gfF_zero {x : Tsk} {gs : List (List Int)} (h : (gfF x gs).1 = 0) : gfF x gs = (0, 0) ∧ (tkF x).1 = 0 ∧ gs.length ≤ 24 ∧ ∀ j, j < gs.length → setB (rw_ gs j) x.n = true ∧ indB x (rw_ gs j) = true := by
  unfold gfF at h ⊢
  by_cases h1 : (tkF x).1 = 0
  · rw [if_neg (by simpa using h1)] at h ⊢
    by_cases h2 : 24 < gs.length
    · rw [if_pos h2] at h; cases h
    · rw [if_neg h2] at h ⊢
      by_cases h3 : gfC x gs = 0
      · rw [if_pos h3]
        exact ⟨rfl, h1, by omega, gfC_all h3⟩
      · rw [if_neg h3] at h; exact absurd h h3
  · rw [if_pos h1] at h; exact absurd h h1
def FaP (w : World) (r : Int × Int) (e : Ending) (w' : World) : Prop := e = .returned (faultV r) ∧ Below w.heap.size w w'
set_option maxHeartbeats 4000000 in
theorem gcheck_any (x : Tsk) (gs : List (List Int)) (A : Option Addr) (c : Nat) (w : World) (hX : TskIn w w.heap.size x) (hG : Rws w w.heap.size A gs) (hgl : gs.length ≤ c) (hgm : c ≤ maxLen) :
    Calls Tryd.prog 37 #[.agg #[.int .i64 x.n, .slice x.ai x.init.length x.ci, .slice x.ag x.goal.length x.cg, .slice x.ao x.ops.length x.co], .slice A gs.length c] w (FaP w (gfF x gs)) := by
  have hB2 : Below w.heap.size w ((w.alloc (.cells #[.int .i64 x.n, .slice x.ai x.init.length x.ci, .slice x.ag x.goal.length x.cg, .slice x.ao x.ops.length x.co] 25)).alloc (.cells #[.int .i64 0, .int .i64 0] 28)) := by go_grown
  have hC := validate_any x _ (hX.to hB2 hB2.size)
  have hgml : gs.length ≤ maxLen := Nat.le_trans hgl hgm
  unfold maxLen at hgml
  have HG := Lib.hid (fun (W : World) (h : Below w.heap.size w W) => hG.to h h.size)
  have HX := Lib.hid (fun (W : World) (h : Below w.heap.size w W) => hX.to h h.size)
  clear hX hG hB2 hgl hgm
  have hF0 := Lib.hid (fr1_new w x 25 28)
  by_cases ht : (tkF x).1 = 0
  case neg =>
    have H := Lib.hid (show gfF x gs = tkF x by unfold gfF; rw [if_pos ht])
    have hne : ((tkF x).1 != 0) = true := by simpa using ht
    have hne2 : ((tkF x).1 == 0) = false := by simpa using ht
    have HC := Lib.hid hC
    clear ht hC
    go_enter Tryd.func37, Tryd.ntmps37
    go_wp2_with (go_at_call 66; (with_reducible refine HC.out.mono ?_); rintro e w1 ⟨rfl, hbw⟩; have hF := Lib.hid ((hF0.out.to hbw).alloc (.cells #[.int .i64 (tkF x).1, .int .i64 (tkF x).2] 28)); clear hbw; obtain ⟨_, ⟨_, t0, t1, t2, t3⟩, ⟨_, k0, k1, f0, f1⟩⟩ := hF.out)
    refine post_fault (g := w.heap.size + 1) (x := .int .i64 (tkF x).1) (y := .int .i64 (tkF x).2) Tryd.results37 rfl (hF.out.two.set _ _) ?_
    exact ⟨by rw [H.out], (hF.out.below.setCell (by simp) _).setCell (by simp) _⟩
  have hv := tkF_val ht
  rw [tkF_fst ht] at hC
  have HC := Lib.hid hC
  clear hC
  by_cases hm : 24 < gs.length
  · have H := Lib.hid (show gfF x gs = (2, -8) by unfold gfF; rw [if_neg (by simpa using ht), if_pos hm])
    have d1 : decide ((24 : Int) < (gs.length : Int)) = true := decide_eq_true (by omega)
    have d0 : decide (24 < gs.length) = true := decide_eq_true hm
    clear ht hv hm
    go_enter Tryd.func37, Tryd.ntmps37
    go_wp2_with (go_at_call 66; (with_reducible refine HC.out.mono ?_); rintro e w1 ⟨rfl, hbw⟩; have hF := Lib.hid ((hF0.out.to hbw).alloc (.cells #[.int .i64 0, .int .i64 0] 28)); clear hbw; obtain ⟨_, ⟨_, t0, t1, t2, t3⟩, ⟨_, k0, k1, f0, f1⟩⟩ := hF.out)
    refine post_fault (g := w.heap.size + 1) (x := .int .i64 2) (y := .int .i64 (-8)) Tryd.results37 rfl (hF.out.two.set _ _) ?_
    exact ⟨by rw [H.out], (hF.out.below.setCell (by simp) _).setCell (by simp) _⟩
  have d1 : decide ((24 : Int) < (gs.length : Int)) = false := decide_eq_false (by omega)
  have d0 : decide (24 < gs.length) = false := decide_eq_false hm
  have HT := Lib.hid (show gfF x gs = if gfC x gs = 0 then (0, 0) else (gfC x gs, -8) by unfold gfF; rw [if_neg (by simpa using ht), if_neg hm])
  have HZ := Lib.hid ht
  clear ht hm
  have HV := Lib.hid hv
  clear hv
  go_enter Tryd.func37, Tryd.ntmps37
  go_wp2_with (go_at_call 66; (with_reducible refine HC.out.mono ?_); rintro e w1 ⟨rfl, hbw⟩; have hF := Lib.hid ((hF0.out.to hbw).alloc (.cells #[.int .i64 0, .int .i64 0] 28)); clear hbw; obtain ⟨_, ⟨_, t0, t1, t2, t3⟩, ⟨_, k0, k1, f0, f1⟩⟩ := hF.out)
  have hF2 := Lib.hid hF.out
  clear t0 t1 t2 t3 k0 k1 f0 f1
  go_loopw [22] (fun i wr => ∃ k : Nat, k ≤ gs.length ∧ i = .int .i64 k ∧ Fr1 w wr x 0 0 ∧ ∀ j, j < k → gcode x (rw_ gs j) = 0) (fun i _ => gs.length - (intOf i).toNat)
  case atStart => exact ⟨0, by omega, rfl, hF2.out, by omega⟩
  case round =>
    obtain ⟨k, hk, rfl, hfr, hj⟩ := hrel
    have hF := Lib.hid hfr
    have HJ := Lib.hid hj
    clear hfr hj
    obtain ⟨_, ⟨_, t0, t1, t2, t3⟩, ⟨_, k0, k1, f0, f1⟩⟩ := hF.out
    by_cases hlt : k < gs.length
    case neg =>
      have hge : ¬ ((k : Int) < gs.length) := by omega
      have H := Lib.hid (show gfF x gs = (0, 0) by rw [HT.out, if_pos (gfC_none (fun j hj => HJ.out j (by omega)))])
      go_wp2
      refine post_fault (g := w.heap.size + 1) (x := .int .i64 0) (y := .int .i64 0) Tryd.results37 rfl (hF.out.two.set _ _) ?_
      exact ⟨by rw [H.out], (hF.out.below.setCell (by simp) _).setCell (by simp) _⟩
    obtain ⟨b, o, ak, ck, rfl, hbl, hcell, hlst⟩ := (HG.out _ hF.out.below).at_ hlt
    have hIN := Inductive_any x ak ck (rw_ gs k) wr (HX.out _ hF.out.below) hlst
    have HBAD := Lib.hid (fun h => gfC_at hlt HJ.out h)
    clear hlst
    cases hs : setB (rw_ gs k) x.n
    · have e1 : iF x (rw_ gs k) = (5, -8) := by simp [iF, HZ.out, hs]
      have e2 : iB x (rw_ gs k) = false := by unfold iB; rw [e1]; rfl
      have hgc : gcode x (rw_ gs k) = 5 := by unfold gcode; rw [if_pos hs]
      rw [e1, e2] at hIN
      have HIN := Lib.hid hIN
      have H := Lib.hid (show gfF x gs = (5, -8) by rw [HT.out, HBAD.out (by rw [hgc]; decide), hgc]; rfl)
      clear hIN e1 e2 hgc hs HBAD
      go_wp2_with (go_at_call 32; (with_reducible refine HIN.out.mono ?_); rintro e w2 ⟨rfl, hb2⟩; have HB2 := Lib.hid hb2; obtain ⟨_, ⟨y0, y1, y2, y3, y4⟩, ⟨z0, z1, z2, z3, z4⟩⟩ := hF.out.to hb2; clear hb2)
      have hF3 := hF.out.to HB2.out
      have hs3 := hF3.below.size
      refine post_fault (g := w.heap.size + 1) (x := .int .i64 5) (y := .int .i64 (-8)) Tryd.results37 rfl ((hF3.two.set _ _).alloc _) ?_
      exact ⟨by rw [H.out], ((hF3.below.setCell (by simp) _).setCell (by simp) _).alloc (by first | (simp; done) | (simp; omega) | omega | (simp [World.setCell]; done) | (simp [World.setCell]; omega)) _⟩
    have e1 : iF x (rw_ gs k) = (0, 0) := by simp [iF, HZ.out, hs]
    have e2 : iB x (rw_ gs k) = indB x (rw_ gs k) := by unfold iB; rw [e1]; rfl
    rw [e1, e2] at hIN
    cases hi : indB x (rw_ gs k)
    · rw [hi] at hIN
      have hgc : gcode x (rw_ gs k) = 16 := by unfold gcode; rw [if_neg (by simp [hs]), if_pos hi]
      have HIN := Lib.hid hIN
      have H := Lib.hid (show gfF x gs = (16, -8) by rw [HT.out, HBAD.out (by rw [hgc]; decide), hgc]; rfl)
      clear hIN e1 e2 hgc hs hi HBAD
      go_wp2_with (go_at_call 32; (with_reducible refine HIN.out.mono ?_); rintro e w2 ⟨rfl, hb2⟩; have HB2 := Lib.hid hb2; obtain ⟨_, ⟨y0, y1, y2, y3, y4⟩, ⟨z0, z1, z2, z3, z4⟩⟩ := hF.out.to hb2; clear hb2)
      have hF3 := hF.out.to HB2.out
      have hs3 := hF3.below.size
      refine post_fault (g := w.heap.size + 1) (x := .int .i64 16) (y := .int .i64 (-8)) Tryd.results37 rfl ((hF3.two.set _ _).alloc _) ?_
      exact ⟨by rw [H.out], ((hF3.below.setCell (by simp) _).setCell (by simp) _).alloc (by first | (simp; done) | (simp; omega) | omega | (simp [World.setCell]; done) | (simp [World.setCell]; omega)) _⟩
    · rw [hi] at hIN
      have HIN := Lib.hid hIN
      have HGC := Lib.hid (show gcode x (rw_ gs k) = 0 by unfold gcode; rw [if_neg (by simp [hs]), if_neg (by simp [hi])])
      clear hIN e1 e2 hs hi HBAD
      go_wp2_with (go_at_call 32; (with_reducible refine HIN.out.mono ?_); rintro e w2 ⟨rfl, hb2⟩; have HB2 := Lib.hid hb2; obtain ⟨_, ⟨y0, y1, y2, y3, y4⟩, ⟨z0, z1, z2, z3, z4⟩⟩ := hF.out.to hb2; clear hb2)
      go_roundw
      case rel => exact ⟨k + 1, by omega, by go_num, (hF.out.to HB2.out).alloc _, all_step (p := fun j => gcode x (rw_ gs j) = 0) HJ.out HGC.out⟩
      case measure => simp [intOf]; omega
end Go.Proofs.YtiaobanloakplaaDoor
