/- The reference of package encode: GroupsFault, ValueOf, crowded, ValuesOf. -/
import Derived.Test.YtiaobanloakplaaDoorEmh
import Derived.Test.YtiaobanloakplaaDoorVgp
namespace Go.Proofs.YtiaobanloakplaaDoor
open Go.RowKit
set_option linter.unusedSimpArgs false
set_option linter.unusedVariables false
set_option maxRecDepth 100000

structure FG (w V : World) (x : Tsk) (q : Nat) : Prop where
  fr : Fr1 w V x 0 0
  tw : Two V q (.int .i64 0) (.int .i64 0)
theorem FG.to {w V V2 : World} {x : Tsk} {q : Nat} (h : FG w V x q) (hb : Below V.heap.size V V2) : FG w V2 x q := ⟨h.fr.to hb, two_to h.tw hb⟩
theorem last6e {P1 P2 P3 P4 P5 Q : Prop} (h : P1 ∧ P2 ∧ P3 ∧ P4 ∧ P5 ∧ Q) : Q := h.2.2.2.2.2
set_option maxHeartbeats 8000000 in
theorem groupsFault_any (x : Tsk) (gs : List (List Int)) (A : Option Addr) (c : Nat) (w : World) (hX : TskIn w w.heap.size x) (hG : Rws w w.heap.size A gs) (hgl : gs.length ≤ c) (hgm : c ≤ maxLen) :
    Calls Tryd.prog 8 #[.agg #[.int .i64 x.n, .slice x.ai x.init.length x.ci, .slice x.ag x.goal.length x.cg, .slice x.ao x.ops.length x.co], .slice A gs.length c] w (FaP w (gfF x gs)) := by
  have hB2 : Below w.heap.size w ((w.alloc (.cells #[.int .i64 x.n, .slice x.ai x.init.length x.ci, .slice x.ag x.goal.length x.cg, .slice x.ao x.ops.length x.co] 25)).alloc (.cells #[.int .i64 0, .int .i64 0] 28)) := by go_grown
  have hC := taskFault_any x _ (hX.to hB2 hB2.size)
  have hgml : gs.length ≤ maxLen := Nat.le_trans hgl hgm
  unfold maxLen at hgml
  have HG := Lib.hid (fun (W : World) (h : Below w.heap.size w W) => hG.to h h.size)
  have HX := Lib.hid (fun (W : World) (h : Below w.heap.size w W) => hX.to h h.size)
  clear hX hG hB2 hgl hgm
  have hF0 := Lib.hid (fr1_new w x 25 28)
  by_cases ht : (tkF x).1 = 0
  case neg =>
    have H := Lib.hid (show gfF x gs = tkF x by unfold gfF; rw [if_pos ht])
    have hne : ((tkF x).1 != 0) = true := by simpa using ht
    have hne2 : ((tkF x).1 == 0) = false := by simpa using ht
    have HC := Lib.hid hC
    clear ht hC
    go_enter Tryd.func8, Tryd.ntmps8
    go_wp2_with (go_at_call 34; (with_reducible refine HC.out.mono ?_); rintro e w1 ⟨rfl, hbw⟩; have hF := Lib.hid ((hF0.out.to hbw).alloc (.cells #[.int .i64 (tkF x).1, .int .i64 (tkF x).2] 28)); clear hbw; obtain ⟨_, ⟨_, t0, t1, t2, t3⟩, ⟨_, k0, k1, f0, f1⟩⟩ := hF.out)
    refine post_fault (g := w.heap.size + 1) (x := .int .i64 (tkF x).1) (y := .int .i64 (tkF x).2) Tryd.results8 rfl (hF.out.two.set _ _) ?_
    exact ⟨by rw [H.out], (hF.out.below.setCell (by simp) _).setCell (by simp) _⟩
  have hv := tkF_val ht
  rw [tkF_fst ht] at hC
  have HC := Lib.hid hC
  clear hC
  by_cases hm : 24 < gs.length
  · have H := Lib.hid (show gfF x gs = (2, -8) by unfold gfF; rw [if_neg (by simpa using ht), if_pos hm])
    have d1 : decide ((24 : Int) < (gs.length : Int)) = true := decide_eq_true (by omega)
    have d0 : decide (24 < gs.length) = true := decide_eq_true hm
    clear ht hv hm
    go_enter Tryd.func8, Tryd.ntmps8
    go_wp2_with (first | (go_at_call 34; (with_reducible refine HC.out.mono ?_); rintro e w1 ⟨rfl, hbw⟩; have hF := Lib.hid ((hF0.out.to hbw).alloc (.cells #[.int .i64 0, .int .i64 0] 28)); clear hbw; obtain ⟨_, ⟨_, t0, t1, t2, t3⟩, ⟨_, k0, k1, f0, f1⟩⟩ := hF.out) | (go_at_call 18; refine (at_any _ _ _).mono ?_; rintro e w9 ⟨rfl, hb9⟩; have hF := Lib.hid (hF.out.to hb9); clear hb9 t0 t1 t2 t3 k0 k1 f0 f1; obtain ⟨_, ⟨_, t0, t1, t2, t3⟩, ⟨_, k0, k1, f0, f1⟩⟩ := hF.out))
    refine post_fault (g := w.heap.size + 1) (x := .int .i64 2) (y := .int .i64 (-8)) Tryd.results8 rfl (hF.out.two.set _ _) ?_
    exact ⟨by rw [H.out], (hF.out.below.setCell (by simp) _).setCell (by simp) _⟩
  have d1 : decide ((24 : Int) < (gs.length : Int)) = false := decide_eq_false (by omega)
  have d0 : decide (24 < gs.length) = false := decide_eq_false hm
  have HT := Lib.hid (show gfF x gs = if gfC x gs = 0 then (0, 0) else (gfC x gs, -8) by unfold gfF; rw [if_neg (by simpa using ht), if_neg hm])
  have HV := Lib.hid hv
  have hn0 : 0 ≤ x.n := by have := hv.eq; omega
  have hn24 : x.n ≤ 24 := by have := hv.eq; have := hv.le; omega
  clear ht hm hv
  go_enter Tryd.func8, Tryd.ntmps8
  go_wp2_with (go_at_call 34; (with_reducible refine HC.out.mono ?_); rintro e w1 ⟨rfl, hbw⟩; have hF := Lib.hid ((hF0.out.to hbw).alloc (.cells #[.int .i64 0, .int .i64 0] 28)); clear hbw; obtain ⟨_, ⟨_, t0, t1, t2, t3⟩, ⟨_, k0, k1, f0, f1⟩⟩ := hF.out)
  have HF2 := Lib.hid (show FG w (w1.alloc (.cells #[.int .i64 0, .int .i64 0] 28)) x w1.heap.size from ⟨hF.out, two_new _ _ _ _⟩)
  clear t0 t1 t2 t3 k0 k1 f0 f1
  go_loopw [6] (fun i wr => ∃ k : Nat, k ≤ gs.length ∧ i = .int .i64 k ∧ FG w wr x w1.heap.size ∧ ∀ j, j < k → gcode x (rw_ gs j) = 0) (fun i _ => gs.length - (intOf i).toNat)
  case atStart => exact ⟨0, by omega, rfl, HF2.out, by omega⟩
  case round =>
    obtain ⟨k, hk, rfl, hfg, hj⟩ := hrel
    have HFG := Lib.hid hfg
    have hF := Lib.hid hfg.fr
    have HJ := Lib.hid hj
    obtain ⟨_, y0, y1, _, _⟩ := hfg.tw
    clear hfg hj
    obtain ⟨_, ⟨_, t0, t1, t2, t3⟩, ⟨_, k0, k1, f0, f1⟩⟩ := hF.out
    by_cases hlt : k < gs.length
    case neg =>
      have hge : ¬ ((k : Int) < gs.length) := by omega
      have H := Lib.hid (show gfF x gs = (0, 0) by rw [HT.out, if_pos (gfC_none (fun j hj => HJ.out j (by omega)))])
      go_wp2
      refine post_fault (g := w.heap.size + 1) (x := .int .i64 0) (y := .int .i64 0) Tryd.results8 rfl (hF.out.two.set _ _) ?_
      exact ⟨by rw [H.out], (hF.out.below.setCell (by simp) _).setCell (by simp) _⟩
    obtain ⟨b, o, ak, ck, rfl, hbl, hcell, hlst⟩ := (HG.out _ hF.out.below).at_ hlt
    have HIS := Lib.hid (fun (W : World) (h : Below wr.heap.size wr W) => isSetR_any ak ck (rw_ gs k) x.n W hn0 hn24 (hlst.to h h.size).nums (hlst.to h h.size).len)
    have HBAD := Lib.hid (fun h => gfC_at hlt HJ.out h)
    have SS := Lib.hid (fun (V : World) (h : Below wr.heap.size wr V) => (⟨(h.cell (p := ⟨b, o + k, none⟩) hbl).trans hcell, cell_to t0 h, cell_to t1 h, cell_to t2 h, cell_to t3 h, h⟩ : V.cell? ⟨b, o + k, none⟩ = some (.slice ak (rw_ gs k).length ck) ∧ V.cell? ⟨w.heap.size, 0, none⟩ = some (.int .i64 x.n) ∧ V.cell? ⟨w.heap.size, 1, none⟩ = some (.slice x.ai x.init.length x.ci) ∧ V.cell? ⟨w.heap.size, 2, none⟩ = some (.slice x.ag x.goal.length x.cg) ∧ V.cell? ⟨w.heap.size, 3, none⟩ = some (.slice x.ao x.ops.length x.co) ∧ Below wr.heap.size wr V))
    have hS0 := SS.out wr (Below.refl _ _)
    have hlti : (k : Int) < gs.length := by omega
    cases hs : setB (rw_ gs k) x.n
    · have hgc : gcode x (rw_ gs k) = 5 := by unfold gcode; rw [if_pos hs]
      rw [hs] at HIS
      have H := Lib.hid (show gfF x gs = (5, -8) by rw [HT.out, HBAD.out (by rw [hgc]; decide), hgc]; rfl)
      clear hgc hs HBAD hlst
      go_wp2
      go_region_held3 (fun V => V.cell? ⟨b, o + k, none⟩ = some (.slice ak (rw_ gs k).length ck) ∧ V.cell? ⟨w.heap.size, 0, none⟩ = some (.int .i64 x.n) ∧ V.cell? ⟨w.heap.size, 1, none⟩ = some (.slice x.ai x.init.length x.ci) ∧ V.cell? ⟨w.heap.size, 2, none⟩ = some (.slice x.ag x.goal.length x.cg) ∧ V.cell? ⟨w.heap.size, 3, none⟩ = some (.slice x.ao x.ops.length x.co) ∧ Below wr.heap.size wr V) (first | assumption | (refine ⟨?_, ?_, ?_, ?_, ?_, ?_⟩ <;> assumption) | (exact SS.out _ ((Below.refl _ _).drew)) | (exact SS.out _ (bel_goE (last6e (by assumption)) (by assumption))) | (exact SS.out _ (Below.drew (last6e (by assumption)))) | (exact SS.out _ (hb2'.drew))) (first | (go_at_call 35; (with_reducible refine (HIS.out _ ?_).mono ?_); (first | exact (last6e (by assumption)) | exact (Below.refl _ _).drew); rintro e w2 ⟨rfl, hb2⟩))
      have hF := Lib.hid (hF.out.to ((Below.refl wr.heap.size wr).drew.trans hb2))
      clear hS0 t0 t1 t2 t3 k0 k1 f0 f1
      obtain ⟨_, ⟨_, t0, t1, t2, t3⟩, ⟨_, k0, k1, f0, f1⟩⟩ := hF.out
      go_wp2_with (go_at_call 18; refine (at_any _ _ _).mono ?_; rintro e w9 ⟨rfl, hb9⟩; have hF := Lib.hid (hF.out.to hb9); clear hb9 t0 t1 t2 t3 k0 k1 f0 f1; obtain ⟨_, ⟨_, t0, t1, t2, t3⟩, ⟨_, k0, k1, f0, f1⟩⟩ := hF.out)
      refine post_fault (g := w.heap.size + 1) (x := .int .i64 5) (y := .int .i64 (-8)) Tryd.results8 rfl (hF.out.two.set _ _) ?_
      exact ⟨by rw [H.out], (hF.out.below.setCell (by simp) _).setCell (by simp) _⟩
    rw [hs] at HIS
    have hg24 : IsS (rw_ gs k) 24 := (setB_iff.1 hs).mono hn24
    have HGR := Lib.hid (fun (W : World) (h : Below wr.heap.size wr W) => group_any x ak ck (rw_ gs k) W (HX.out W (hF.out.below.trans (h.mono hF.out.below.size))) (HV.out.init.mono (by have := HV.out.le; omega)) HV.out.ops24 hg24 (hlst.to h h.size))
    cases hi : indB x (rw_ gs k)
    · rw [hi] at HGR
      have hgc : gcode x (rw_ gs k) = 16 := by unfold gcode; rw [if_neg (by simp [hs]), if_pos hi]
      have H := Lib.hid (show gfF x gs = (16, -8) by rw [HT.out, HBAD.out (by rw [hgc]; decide), hgc]; rfl)
      clear hgc hs hi HBAD hlst hg24
      go_wp2
      go_region_held3 (fun V => V.cell? ⟨b, o + k, none⟩ = some (.slice ak (rw_ gs k).length ck) ∧ V.cell? ⟨w.heap.size, 0, none⟩ = some (.int .i64 x.n) ∧ V.cell? ⟨w.heap.size, 1, none⟩ = some (.slice x.ai x.init.length x.ci) ∧ V.cell? ⟨w.heap.size, 2, none⟩ = some (.slice x.ag x.goal.length x.cg) ∧ V.cell? ⟨w.heap.size, 3, none⟩ = some (.slice x.ao x.ops.length x.co) ∧ Below wr.heap.size wr V) (first | assumption | (refine ⟨?_, ?_, ?_, ?_, ?_, ?_⟩ <;> assumption) | (exact SS.out _ ((Below.refl _ _).drew)) | (exact SS.out _ (bel_goE (last6e (by assumption)) (by assumption))) | (exact SS.out _ (Below.drew (last6e (by assumption)))) | (exact SS.out _ (hb2'.drew))) (first | (go_at_call 35; (with_reducible refine (HIS.out _ ?_).mono ?_); (first | exact (last6e (by assumption)) | exact (Below.refl _ _).drew); rintro e w2 ⟨rfl, hb2⟩))
      have hb2' : Below wr.heap.size wr w2 := (Below.refl wr.heap.size wr).drew.trans hb2
      have hS2 := SS.out w2 hb2'
      go_wp2
      go_region_held3 (fun V => V.cell? ⟨b, o + k, none⟩ = some (.slice ak (rw_ gs k).length ck) ∧ V.cell? ⟨w.heap.size, 0, none⟩ = some (.int .i64 x.n) ∧ V.cell? ⟨w.heap.size, 1, none⟩ = some (.slice x.ai x.init.length x.ci) ∧ V.cell? ⟨w.heap.size, 2, none⟩ = some (.slice x.ag x.goal.length x.cg) ∧ V.cell? ⟨w.heap.size, 3, none⟩ = some (.slice x.ao x.ops.length x.co) ∧ Below wr.heap.size wr V) (first | assumption | (refine ⟨?_, ?_, ?_, ?_, ?_, ?_⟩ <;> assumption) | (exact SS.out _ ((Below.refl _ _).drew)) | (exact SS.out _ (bel_goE (last6e (by assumption)) (by assumption))) | (exact SS.out _ (Below.drew (last6e (by assumption)))) | (exact SS.out _ (hb2'.drew))) (first | (go_at_call 36; (with_reducible refine (HGR.out _ ?_).mono ?_); (first | exact (last6e (by assumption)) | exact (Below.refl _ _).drew); rintro e w5 ⟨rfl, hb5⟩))
      have hF := Lib.hid (hF.out.to (hb2'.trans (((Below.refl w2.heap.size w2).drew.trans hb5).mono hb2'.size)))
      clear hS0 hS2 t0 t1 t2 t3 k0 k1 f0 f1
      obtain ⟨_, ⟨_, t0, t1, t2, t3⟩, ⟨_, k0, k1, f0, f1⟩⟩ := hF.out
      go_wp2_with (go_at_call 18; refine (at_any _ _ _).mono ?_; rintro e w9 ⟨rfl, hb9⟩; have hF := Lib.hid (hF.out.to hb9); clear hb9 t0 t1 t2 t3 k0 k1 f0 f1; obtain ⟨_, ⟨_, t0, t1, t2, t3⟩, ⟨_, k0, k1, f0, f1⟩⟩ := hF.out)
      refine post_fault (g := w.heap.size + 1) (x := .int .i64 16) (y := .int .i64 (-8)) Tryd.results8 rfl (hF.out.two.set _ _) ?_
      exact ⟨by rw [H.out], (hF.out.below.setCell (by simp) _).setCell (by simp) _⟩
    · rw [hi] at HGR
      have HGC := Lib.hid (show gcode x (rw_ gs k) = 0 by unfold gcode; rw [if_neg (by simp [hs]), if_neg (by simp [hi])])
      clear hs hi HBAD hlst hg24
      go_wp2
      go_region_held3 (fun V => V.cell? ⟨b, o + k, none⟩ = some (.slice ak (rw_ gs k).length ck) ∧ V.cell? ⟨w.heap.size, 0, none⟩ = some (.int .i64 x.n) ∧ V.cell? ⟨w.heap.size, 1, none⟩ = some (.slice x.ai x.init.length x.ci) ∧ V.cell? ⟨w.heap.size, 2, none⟩ = some (.slice x.ag x.goal.length x.cg) ∧ V.cell? ⟨w.heap.size, 3, none⟩ = some (.slice x.ao x.ops.length x.co) ∧ Below wr.heap.size wr V) (first | assumption | (refine ⟨?_, ?_, ?_, ?_, ?_, ?_⟩ <;> assumption) | (exact SS.out _ ((Below.refl _ _).drew)) | (exact SS.out _ (bel_goE (last6e (by assumption)) (by assumption))) | (exact SS.out _ (Below.drew (last6e (by assumption)))) | (exact SS.out _ (hb2'.drew))) (first | (go_at_call 35; (with_reducible refine (HIS.out _ ?_).mono ?_); (first | exact (last6e (by assumption)) | exact (Below.refl _ _).drew); rintro e w2 ⟨rfl, hb2⟩))
      have hb2' : Below wr.heap.size wr w2 := (Below.refl wr.heap.size wr).drew.trans hb2
      have hS2 := SS.out w2 hb2'
      go_wp2
      go_region_held3 (fun V => V.cell? ⟨b, o + k, none⟩ = some (.slice ak (rw_ gs k).length ck) ∧ V.cell? ⟨w.heap.size, 0, none⟩ = some (.int .i64 x.n) ∧ V.cell? ⟨w.heap.size, 1, none⟩ = some (.slice x.ai x.init.length x.ci) ∧ V.cell? ⟨w.heap.size, 2, none⟩ = some (.slice x.ag x.goal.length x.cg) ∧ V.cell? ⟨w.heap.size, 3, none⟩ = some (.slice x.ao x.ops.length x.co) ∧ Below wr.heap.size wr V) (first | assumption | (refine ⟨?_, ?_, ?_, ?_, ?_, ?_⟩ <;> assumption) | (exact SS.out _ ((Below.refl _ _).drew)) | (exact SS.out _ (bel_goE (last6e (by assumption)) (by assumption))) | (exact SS.out _ (Below.drew (last6e (by assumption)))) | (exact SS.out _ (hb2'.drew))) (first | (go_at_call 36; (with_reducible refine (HGR.out _ ?_).mono ?_); (first | exact (last6e (by assumption)) | exact (Below.refl _ _).drew); rintro e w5 ⟨rfl, hb5⟩))
      go_wp2
      go_roundw
      case rel => exact ⟨k + 1, by omega, by go_num, HFG.out.to (hb2'.trans (((Below.refl w2.heap.size w2).drew.trans hb5).mono hb2'.size)), all_step (p := fun j => gcode x (rw_ gs j) = 0) HJ.out HGC.out⟩
      case measure => simp [intOf]; omega

set_option maxHeartbeats 1000000 in
theorem valueOf_any (A B : Option Addr) (c d : Nat) (cl s : List Int) (w : World) (hA : Nums w w.heap.size A cl) (hB : Nums w w.heap.size B s) (hlc : cl.length ≤ 100) (hls : s.length ≤ maxLen) :
    Calls Tryd.prog 43 #[.slice A cl.length c, .slice B s.length d] w fun e w' => e = .returned (.int .i64 (valu cl s)) ∧ w = w' := by
  have HC := Lib.hid (fun x => has_any B d s x w hB hls)
  have HA := Lib.hid hA
  clear hA hB
  go_enter Tryd.func43, Tryd.ntmps43
  go_wp2
  go_loop [5] (fun i => ∃ k : Nat, k ≤ cl.length ∧ i = .int .i64 k ∧ ∀ j, j < k → ix cl j ∉ s) (fun i => cl.length - (intOf i).toNat)
  case atStart => exact ⟨0, by omega, rfl, by omega⟩
  case round =>
    obtain ⟨k, hk, rfl, hj⟩ := hrel
    have HJ := Lib.hid hj
    clear hj
    by_cases hlt : k < cl.length
    · obtain ⟨b, o, rfl, _, hc⟩ := HA.out.at_ hlt
      have HR := HC.out (ix cl k)
      by_cases hm : ix cl k ∈ s
      · have H := Lib.hid (valu_hit hlt hm HJ.out)
        rw [show hasB s (ix cl k) = true from decide_eq_true hm] at HR
        have HRH := Lib.hid HR
        clear HR hm
        go_wp2_with (go_at_call 42; (with_reducible refine HRH.out.mono ?_); rintro e w' ⟨rfl, rfl⟩)
        go_ret
        exact ⟨by rw [H.out]; rfl, rfl⟩
      · have HM := Lib.hid hm
        rw [show hasB s (ix cl k) = false from decide_eq_false hm] at HR
        have HRH := Lib.hid HR
        clear HR hm
        go_wp2_with (go_at_call 42; (with_reducible refine HRH.out.mono ?_); rintro e w' ⟨rfl, rfl⟩)
        go_round
        case rel => exact ⟨k + 1, by omega, by go_num, all_step (p := fun j => ix cl j ∉ s) HJ.out HM.out⟩
        case measure => simp [intOf]; omega
    · have hge : ¬ ((k : Int) < cl.length) := by omega
      have H := Lib.hid (valu_miss (fun j hj => HJ.out j (by omega)))
      go_wp2
      go_ret
      exact ⟨by rw [H.out]; rfl, rfl⟩
set_option maxHeartbeats 1000000 in
theorem crowded_any (A B : Option Addr) (c d : Nat) (cs : List (List Int)) (s : List Int) (w : World) (hA : Rws w w.heap.size A cs) (hB : Nums w w.heap.size B s) (hlc : cs.length ≤ 100) (h24 : ∀ k, k < cs.length → (rw_ cs k).length ≤ 100) (hls : s.length ≤ maxLen) :
    Calls Tryd.prog 45 #[.slice A cs.length c, .slice B s.length d] w fun e w' => e = .returned (.bool (crB cs s)) ∧ w = w' := by
  have HA := Lib.hid hA
  have HB := Lib.hid hB
  have H24 := Lib.hid h24
  clear hA hB h24
  go_enter Tryd.func45, Tryd.ntmps45
  go_wp2
  go_loop [5] (fun i => ∃ k : Nat, k ≤ cs.length ∧ i = .int .i64 k ∧ ∀ j, j < k → (valL (rw_ cs j) s).length ≤ 1) (fun i => cs.length - (intOf i).toNat)
  case atStart => exact ⟨0, by omega, rfl, by omega⟩
  case round =>
    obtain ⟨k, hk, rfl, hj⟩ := hrel
    have HJ := Lib.hid hj
    clear hj
    by_cases hlt : k < cs.length
    · obtain ⟨b, o, ak, ck, rfl, _, hc, hlst⟩ := HA.out.at_ hlt
      have HR := countIn_any ak B ck d (rw_ cs k) s w hlst.nums HB.out (H24.out k hlt) hls
      rw [← valL_cnt] at HR
      have HRH := Lib.hid HR
      have HBD := Lib.hid (fun h => crB_bad (fs := s) hlt h)
      have HSS := Lib.hid (fun h => all_step (p := fun j => (valL (rw_ cs j) s).length ≤ 1) HJ.out h)
      clear HR hlst HJ
      generalize (valL (rw_ cs k) s).length = q at *
      by_cases hq : 1 < q
      · have d1 : decide ((1 : Int) < (q : Int)) = true := decide_eq_true (by omega)
        have H := Lib.hid (HBD.out hq)
        clear hq
        go_wp2_with (go_at_call 44; (with_reducible refine HRH.out.mono ?_); rintro e w' ⟨rfl, rfl⟩)
        go_ret
        exact ⟨by rw [H.out]; rfl, rfl⟩
      · have d1 : decide ((1 : Int) < (q : Int)) = false := decide_eq_false (by omega)
        have H := Lib.hid (HSS.out (by omega))
        clear hq
        go_wp2_with (go_at_call 44; (with_reducible refine HRH.out.mono ?_); rintro e w' ⟨rfl, rfl⟩)
        go_round
        case rel => exact ⟨k + 1, by omega, by go_num, H.out⟩
        case measure => simp [intOf]; omega
    · have hge : ¬ ((k : Int) < cs.length) := by omega
      have H := Lib.hid (crB_false.2 (fun j hj => HJ.out j (by omega)))
      go_wp2
      go_ret
      exact ⟨by rw [H.out]; rfl, rfl⟩
theorem stV_step {cs : List (List Int)} {s : List Int} {k : Nat} (h : k < cs.length) : (stV cs s).take (k + 1) = (stV cs s).take k ++ [valu (rw_ cs k) s] := by
  rw [take_succ_ix (by simpa [stV] using h)]
  congr 2
  exact ix_mapl (f := fun c => valu c s) h
theorem stV_len (cs : List (List Int)) (s : List Int) : (stV cs s).length = cs.length := by simp [stV]
set_option maxHeartbeats 2000000 in
theorem valuesOf2_any (A B : Option Addr) (c d : Nat) (cs : List (List Int)) (s : List Int) (w : World) (hA : Rws w w.heap.size A cs) (hB : Lst w w.heap.size B d s) (hlc : cs.length ≤ 100) (h24 : ∀ k, k < cs.length → (rw_ cs k).length ≤ 100) :
    Calls Tryd.prog 19 #[.slice A cs.length c, .slice B s.length d] w (VbPost w (stV cs s) (!crB cs s)) := by
  have HA := Lib.hid (fun (W : World) (h : Below w.heap.size w W) => hA.to h h.size)
  have HB := Lib.hid (fun (W : World) (h : Below w.heap.size w W) => hB.to h h.size)
  have H24 := Lib.hid h24
  have hcc := fun (W : World) (h : Below w.heap.size w W) => crowded_any A B c d cs s W (hA.to h h.size) (hB.to h h.size).nums hlc h24 hB.len
  have HCC := Lib.hid hcc
  clear hA hB h24 hcc
  obtain ⟨i0, hi, hz0, hz1, hz2⟩ := info_parts info_int
  go_enter Tryd.func19, Tryd.ntmps19
  go_wp2
  go_loopw [6, 7] (fun v i wr => ∃ k : Nat, k ≤ cs.length ∧ i = .int .i64 k ∧ Below w.heap.size w wr ∧ wr.ownsRow w.heap.size 3 1 v ((stV cs s).take k).length (((stV cs s).take k).map (Value.int .i64))) (fun _ i _ => cs.length - (intOf i).toNat)
  case atStart => exact ⟨0, by omega, rfl, Below.refl _ _, World.ownsRow_nil _ _ _ _⟩
  case round =>
    obtain ⟨k, hk, rfl, hbw, hown⟩ := hrel
    have HW := Lib.hid hbw
    have HO := Lib.hid hown
    clear hbw hown
    have hsz := HW.out.size
    by_cases hlt : k < cs.length
    case neg =>
      have hge : ¬ ((k : Int) < cs.length) := by omega
      have HE := Lib.hid (show (stV cs s).take k = stV cs s from List.take_of_length_le (by rw [stV_len]; omega))
      have HCW := Lib.hid (HCC.out _ HW.out)
      go_wp2_with (go_at_call 45; (with_reducible refine HCW.out.mono ?_); rintro e w' ⟨rfl, rfl⟩)
      go_ret2
      exact ⟨_, rfl, by have := HO.out; rw [HE.out] at this; exact this, HW.out⟩
    obtain ⟨b, o, ak, ck, rfl, hbl, hcell, hlst⟩ := (HA.out _ HW.out).at_ hlt
    have HV := Lib.hid (valueOf_any ak B ck d (rw_ cs k) s wr hlst.nums (HB.out _ HW.out).nums (H24.out k hlt) (HB.out _ HW.out).len)
    have HST := Lib.hid (stV_step (s := s) hlt)
    have hlk : ((stV cs s).take k).length ≤ k := List.length_take_le _ _
    clear hlst
    generalize valu (rw_ cs k) s = vv at *
    generalize (stV cs s).take k = q at *
    go_wp2_with (first | (go_at_call 43; (with_reducible refine HV.out.mono ?_); rintro e w' ⟨rfl, rfl⟩) | (at_builtin; refine wpList_append_own_at _ rfl _ _ 22 rfl (w.heap.size) 3 i0 (.int .i64 0) 1 8 Tryd.underlying22 hi hz0 hz1 hz2 rfl (by decide) _ _ _ rfl (HO.out.alloc _) ⟨wr.heap.size, 0, none⟩ 1 1 [.int .i64 vv] rfl rfl ?c1 ?c2 ?c3 ?c4 ?c5 ?_))
    case c1 => exact cell_one_new _ _ _
    case c2 => simp [Value.oneCell']
    case c3 => unfold maxLen; omega
    case c4 => omega
    case c5 => simp; omega
    intro v2 w2 hown2 hgrow _ _
    have HW2 := Lib.hid (HW.out.trans (Below.grown (B := w.heap.size) ((Below.refl _ _).alloc hsz _) hgrow (by simp; omega) (fun q hq => (HO.out.lt q hq).1)))
    have HO2 := Lib.hid hown2
    clear hgrow hown2
    go_wp2
    go_roundw
    case rel => exact ⟨k + 1, by omega, by go_num, HW2.out, by rw [HST.out]; simpa using HO2.out⟩
    case measure => simp [intOf]; omega
end Go.Proofs.YtiaobanloakplaaDoor
