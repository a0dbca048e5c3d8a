/- NumericFault of the reference. -/
import Derived.Test.YtiafplmaigpmeaaNlf
namespace Go.Proofs.Ytiafplmaigpmeaa
open Go.RowKit
set_option linter.unusedSimpArgs false
set_option linter.unusedVariables false
set_option maxRecDepth 100000

/-- What a call with a numeric task has laid: its box and a fault. -/
structure FrN (w W : World) (x : NT) (u v : Int) : Prop where
  below : Below w.heap.size w W
  box : NBox W w.heap.size x
  two : Two W (w.heap.size + 1) (.int .i64 u) (.int .i64 v)
theorem FrN.to {w W W' : World} {x : NT} {u v : Int} (h : FrN w W x u v) (hb : Below W.heap.size W W') : FrN w W' x u v :=
  ⟨h.below.trans (hb.mono h.below.size), h.box.to hb h.box.lt, two_to h.two hb⟩
theorem FrN.alloc {w W : World} {x : NT} {u v : Int} (h : FrN w W x u v) (o : Obj) : FrN w (W.alloc o) x u v := h.to ((Below.refl _ _).alloc (Nat.le_refl _) _)
theorem frN_new (w : World) (x : NT) (t t' : TypeId) : FrN w ((w.alloc (.cells #[.slice x.ai x.init.length x.ci, .slice x.ag x.goal.length x.cg, .slice x.ao x.ops.length x.co] t)).alloc (.cells #[.int .i64 0, .int .i64 0] t')) x 0 0 := by
  refine ⟨by go_grown, (nbox_new w x t).to ((Below.refl _ _).alloc (Nat.le_refl _) _) (by simp), ?_⟩
  have := two_new (w.alloc (.cells #[.slice x.ai x.init.length x.ci, .slice x.ag x.goal.length x.cg, .slice x.ao x.ops.length x.co] t)) (.int .i64 0) (.int .i64 0) t'
  simpa using this
/-- A box with three cells. -/
structure Tri (w : World) (g : Nat) (u v y : Value) : Prop where
  lt : g < w.heap.size
  c0 : w.cell? ⟨g, 0, none⟩ = some u
  c1 : w.cell? ⟨g, 1, none⟩ = some v
  c2 : w.cell? ⟨g, 2, none⟩ = some y
theorem Tri.to {w w' : World} {g : Nat} {u v y : Value} (h : Tri w g u v y) (hb : Below w.heap.size w w') : Tri w' g u v y :=
  ⟨Nat.lt_of_lt_of_le h.lt hb.size, (hb.cell (p := ⟨g, 0, none⟩) h.lt).trans h.c0, (hb.cell (p := ⟨g, 1, none⟩) h.lt).trans h.c1, (hb.cell (p := ⟨g, 2, none⟩) h.lt).trans h.c2⟩
theorem tri_new (w : World) (u v y : Value) (t : TypeId) : Tri (w.alloc (.cells #[u, v, y] t)) w.heap.size u v y := ⟨by simp, by simp, by simp, by simp⟩

/-- The code of an operator without its cost. -/
def ecode (n : Nat) (o : NOp) : Int := if ccode n o.pre ≠ 0 then ccode n o.pre else hcode n o.ch
theorem ocode_eq (n : Nat) (o : NOp) : ocode n o = if ecode n o ≠ 0 then ecode n o else if inB o.cost 0 100 then 0 else 3 := by
  unfold ocode ecode
  by_cases h : ccode n o.pre = 0
  · simp [h]
  · simp [h]
theorem hc_bad {n : Nat} {l : List Chg} {k : Nat} (hk : k < l.length) (h0 : ∀ j, j < k → ch1 n l j = 0) (h : ch1 n l k ≠ 0) : hcode n l = ch1 n l k := by
  unfold hcode
  rw [← ix_hcode hk]
  exact fz_at (fun j hj => by rw [ix_hcode (by omega)]; exact h0 j hj) (by rw [ix_hcode hk]; exact h)
theorem hc_good {n : Nat} {l : List Chg} (h0 : ∀ j, j < l.length → ch1 n l j = 0) : hcode n l = 0 := by
  unfold hcode
  exact fz_none (fun j hj => by rw [ix_hcode (by simpa using hj)]; exact h0 j (by simpa using hj))
theorem inB_no {x a b : Int} (h : ¬ (a ≤ x ∧ x ≤ b)) : inB x a b = false := by
  cases e : inB x a b
  · rfl
  · exact absurd (inB_iff.1 e) h
theorem nf_bad {x : NT} {k : Nat} (h1 : 1 ≤ x.init.length) (h8 : x.init.length ≤ 8) (hi : okL 1000000 x.init.length x.init = true) (hg : ccode x.init.length x.goal = 0) (h40 : x.ops.length ≤ 40)
    (hk : k < x.ops.length) (h0 : ∀ j, j < k → ocode x.init.length (nop x.ops j) = 0) (h : ocode x.init.length (nop x.ops k) ≠ 0) : nfF x = (ocode x.init.length (nop x.ops k), (k : Int)) := by
  unfold nfF
  rw [if_neg (by omega), if_neg (by simp [hi]), if_neg (by simp [hg]), if_neg (by omega), ← ix_ocode hk]
  have := ofz_at (i := 0) (k := k) (fun j hj => by rw [ix_ocode (Nat.lt_trans hj hk)]; exact h0 j hj) (by rw [ix_ocode hk]; exact h)
  simpa using this
theorem nf_good {x : NT} (h1 : 1 ≤ x.init.length) (h8 : x.init.length ≤ 8) (hi : okL 1000000 x.init.length x.init = true) (hg : ccode x.init.length x.goal = 0) (h40 : x.ops.length ≤ 40)
    (h0 : ∀ j, j < x.ops.length → ocode x.init.length (nop x.ops j) = 0) : nfF x = (0, 0) := by
  unfold nfF
  rw [if_neg (by omega), if_neg (by simp [hi]), if_neg (by simp [hg]), if_neg (by omega)]
  exact ofz_none (fun j hj => by rw [ix_ocode (by simpa using hj)]; exact h0 j (by simpa using hj))
set_option maxHeartbeats 4000000 in
theorem numericFault_any (x : NT) (w : World) (hX : NTIn w w.heap.size x) :
    Calls Try.prog 8 #[.agg #[.slice x.ai x.init.length x.ci, .slice x.ag x.goal.length x.cg, .slice x.ao x.ops.length x.co]] w fun e w' => e = .returned (faultV (nfF x)) ∧ Below w.heap.size w w' := by
  have hni := hX.init.len
  have hno := Nat.le_trans hX.ops.le hX.ops.max
  unfold maxLen at hni hno
  have hF0 := Lib.hid (frN_new w x 26 28)
  have HX0 := Lib.hid (fun (W : World) (h : Below w.heap.size w W) => hX.to h h.size)
  have HI0 := Lib.hid (HX0.out _ hF0.out.below).init
  have HG0 := Lib.hid (HX0.out _ hF0.out.below).goal
  clear hX
  by_cases h18 : 1 ≤ x.init.length ∧ x.init.length ≤ 8
  case neg =>
    have H := Lib.hid (show nfF x = (2, -1) by unfold nfF; rw [if_pos h18])
    have hi : inB (x.init.length : Int) 1 8 = false := inB_no (fun h => h18 (by omega))
    clear h18
    go_enter Try.func8, Try.ntmps8
    go_wp2_with (first | (go_at_call 16; refine (in_any _ _ _ _).mono ?_; rintro e w' ⟨rfl, rfl⟩) | (go_at_call 15; refine (at_any _ _ _).mono ?_; rintro e w3 ⟨rfl, hb3⟩; have hF3 := Lib.hid (hF0.out.to hb3); obtain ⟨_, ⟨_, t0, t1, t2⟩, ⟨_, k0, k1, f0, f1⟩⟩ := hF3.out))
    refine post_fault (g := w.heap.size + 1) (x := .int .i64 2) (y := .int .i64 (-1)) Try.results8 rfl (hF3.out.two.set _ _) ?_
    exact ⟨ret_val (by rw [H.out]), (hF3.out.below.setCell (by simp) _).setCell (by simp) _⟩
  have hi1 : inB (x.init.length : Int) 1 8 = true := inB_iff.2 (by omega)
  cases hv : okL 1000000 x.init.length x.init
  · have H := Lib.hid (show nfF x = (5, -2) by unfold nfF; rw [if_neg (by omega), if_pos hv])
    go_enter Try.func8, Try.ntmps8
    go_wp2_with (first | (go_at_call 16; refine (in_any _ _ _ _).mono ?_; rintro e w' ⟨rfl, rfl⟩) | (go_at_call 14; refine (valuesOk_any x.init.length _ _ x.init _ HI0.out).mono ?_; rintro e w' ⟨rfl, rfl⟩) | (go_at_call 15; refine (at_any _ _ _).mono ?_; rintro e w3 ⟨rfl, hb3⟩; have hF3 := Lib.hid (hF0.out.to hb3); obtain ⟨_, ⟨_, t0, t1, t2⟩, ⟨_, k0, k1, f0, f1⟩⟩ := hF3.out))
    refine post_fault (g := w.heap.size + 1) (x := .int .i64 5) (y := .int .i64 (-2)) Try.results8 rfl (hF3.out.two.set _ _) ?_
    exact ⟨ret_val (by rw [H.out]), (hF3.out.below.setCell (by simp) _).setCell (by simp) _⟩
  by_cases hg : ccode x.init.length x.goal = 0
  case neg =>
    have H := Lib.hid (show nfF x = (ccode x.init.length x.goal, -3) by unfold nfF; rw [if_neg (by omega), if_neg (by simp [hv]), if_pos hg])
    have hne : (ccode x.init.length x.goal != 0) = true := by simpa using hg
    have hne2 : (ccode x.init.length x.goal == 0) = false := by simpa using hg
    generalize hcg : ccode x.init.length x.goal = cg at *
    go_enter Try.func8, Try.ntmps8
    go_wp2_with (first | (go_at_call 16; refine (in_any _ _ _ _).mono ?_; rintro e w' ⟨rfl, rfl⟩) | (go_at_call 14; refine (valuesOk_any x.init.length _ _ x.init _ HI0.out).mono ?_; rintro e w' ⟨rfl, rfl⟩) | (go_at_call 24; refine (compCode_any x.init.length _ _ x.goal _ HG0.out).mono ?_; rw [hcg]; rintro e w' ⟨rfl, rfl⟩) | (go_at_call 15; refine (at_any _ _ _).mono ?_; rintro e w3 ⟨rfl, hb3⟩; have hF3 := Lib.hid (hF0.out.to hb3); obtain ⟨_, ⟨_, t0, t1, t2⟩, ⟨_, k0, k1, f0, f1⟩⟩ := hF3.out))
    refine post_fault (g := w.heap.size + 1) (x := .int .i64 cg) (y := .int .i64 (-3)) Try.results8 rfl (hF3.out.two.set _ _) ?_
    exact ⟨ret_val (by rw [H.out]), (hF3.out.below.setCell (by simp) _).setCell (by simp) _⟩
  by_cases h40 : 40 < x.ops.length
  case pos =>
    have H := Lib.hid (show nfF x = (2, -1) by unfold nfF; rw [if_neg (by omega), if_neg (by simp [hv]), if_neg (by simp [hg]), if_pos h40])
    have hd : decide ((40 : Int) < (x.ops.length : Int)) = true := by simp; omega
    go_enter Try.func8, Try.ntmps8
    go_wp2_with (first | (go_at_call 16; refine (in_any _ _ _ _).mono ?_; rintro e w' ⟨rfl, rfl⟩) | (go_at_call 14; refine (valuesOk_any x.init.length _ _ x.init _ HI0.out).mono ?_; rintro e w' ⟨rfl, rfl⟩) | (go_at_call 24; refine (compCode_any x.init.length _ _ x.goal _ HG0.out).mono ?_; rw [hg]; rintro e w' ⟨rfl, rfl⟩) | (go_at_call 15; refine (at_any _ _ _).mono ?_; rintro e w3 ⟨rfl, hb3⟩; have hF3 := Lib.hid (hF0.out.to hb3); obtain ⟨_, ⟨_, t0, t1, t2⟩, ⟨_, k0, k1, f0, f1⟩⟩ := hF3.out))
    refine post_fault (g := w.heap.size + 1) (x := .int .i64 2) (y := .int .i64 (-1)) Try.results8 rfl (hF3.out.two.set _ _) ?_
    exact ⟨ret_val (by rw [H.out]), (hF3.out.below.setCell (by simp) _).setCell (by simp) _⟩
  have hd : decide ((40 : Int) < (x.ops.length : Int)) = false := by simp; omega
  go_enter Try.func8, Try.ntmps8
  go_wp2_with (first | (go_at_call 16; refine (in_any _ _ _ _).mono ?_; rintro e w' ⟨rfl, rfl⟩) | (go_at_call 14; refine (valuesOk_any x.init.length _ _ x.init _ HI0.out).mono ?_; rintro e w' ⟨rfl, rfl⟩) | (go_at_call 24; refine (compCode_any x.init.length _ _ x.goal _ HG0.out).mono ?_; rw [hg]; rintro e w' ⟨rfl, rfl⟩))
  go_loopw [5] (fun i wr => ∃ k : Nat, k ≤ x.ops.length ∧ i = .int .i64 k ∧ (∀ j, j < k → ocode x.init.length (nop x.ops j) = 0) ∧ FrN w wr x 0 0) (fun i _ => x.ops.length - (intOf i).toNat)
  case atStart => exact ⟨0, by omega, rfl, fun j h => by omega, hF0.out⟩
  case round =>
    obtain ⟨k, hk, rfl, hj, hf⟩ := hrel
    have HJ := Lib.hid hj
    have HF := Lib.hid hf
    clear hj hf
    obtain ⟨_, ⟨_, t0, t1, t2⟩, ⟨_, k0, k1, f0, f1⟩⟩ := HF.out
    by_cases hlt : k < x.ops.length
    case neg =>
      have H := Lib.hid (nf_good h18.1 h18.2 hv hg (by omega) (fun j hj => HJ.out j (by omega)))
      have hge : ¬ ((k : Int) < x.ops.length) := by omega
      go_wp2
      refine post_fault (g := w.heap.size + 1) (x := .int .i64 0) (y := .int .i64 0) Try.results8 rfl (HF.out.two.set _ _) ?_
      exact ⟨ret_val (by rw [H.out]), (HF.out.below.setCell (by simp) _).setCell (by simp) _⟩
    case pos =>
      obtain ⟨b, p, a1, a2, c1, c2, hao, hbl, ⟨q0, q1, q2⟩, hpre, hch⟩ := (HX0.out _ HF.out.below).ops.at_ hlt
      rw [hao] at t2
      have HAO := Lib.hid hao
      clear hao
      generalize hO : nop x.ops k = o at *
      have HPR := Lib.hid (fun (V : World) (h : Below wr.heap.size wr V) => hpre.to h h.size)
      have HCH := Lib.hid (fun (V : World) (h : Below wr.heap.size wr V) => hch.to h h.size)
      have HOB := Lib.hid (tri_new wr (.slice a1 o.pre.length c1) (.slice a2 o.ch.length c2) (.int .i64 o.cost) 53)
      have hB1 : Below wr.heap.size wr (wr.alloc (.cells #[.slice a1 o.pre.length c1, .slice a2 o.ch.length c2, .int .i64 o.cost] 53)) := by go_grown
      have HB1 := Lib.hid hB1
      have HF1 := Lib.hid (HF.out.to hB1)
      clear hpre hch hB1
      go_wp2_with (go_at_call 24; refine (compCode_any x.init.length _ _ o.pre _ (HPR.out _ HB1.out)).mono ?_; rintro e w' ⟨rfl, rfl⟩)
      generalize hW2 : wr.alloc (.cells #[.slice a1 o.pre.length c1, .slice a2 o.ch.length c2, .int .i64 o.cost] 53) = W2 at *
      have hwn : IntKind.i64.wrap ((x.init.length : Int) - 1) = (x.init.length : Int) - 1 := IntWalk.i64_in _ (by omega)
      have hlc := Nat.le_trans (HCH.out _ HB1.out).le (HCH.out _ HB1.out).max
      unfold maxLen at hlc
      clear t0 t1 t2 k0 k1 f0 f1
      go_loopw [4, 7] (fun e i wv => ∃ (m : Nat) (e0 : Int), m ≤ o.ch.length ∧ i = .int .i64 m ∧ e = .int .i64 e0 ∧ ((e0 = 0 ∧ ccode x.init.length o.pre = 0 ∧ ∀ j, j < m → ch1 x.init.length o.ch j = 0) ∨ (e0 ≠ 0 ∧ ecode x.init.length o = e0)) ∧ Below W2.heap.size W2 wv) (fun _ i _ => o.ch.length - (intOf i).toNat)
      case atStart =>
        refine ⟨0, ccode x.init.length o.pre, by omega, rfl, rfl, ?_, Below.refl _ _⟩
        by_cases e : ccode x.init.length o.pre = 0
        · exact .inl ⟨e, e, fun j h => by omega⟩
        · exact .inr ⟨e, by unfold ecode; rw [if_pos e]⟩
      case round =>
        obtain ⟨m, e0, hm, rfl, rfl, hcase, hb2⟩ := hrel
        have HB2 := Lib.hid hb2
        have HF2 := Lib.hid (HF1.out.to hb2)
        have HOB2 := Lib.hid (HOB.out.to hb2)
        clear hb2
        obtain ⟨_, ⟨_, t0, t1, t2⟩, ⟨_, k0, k1, f0, f1⟩⟩ := HF2.out
        obtain ⟨_, o0, o1, o2⟩ := HOB2.out
        rw [HAO.out] at t2
        rcases hcase with ⟨rfl, hcp, hj⟩ | ⟨hne, hec⟩
        case inr =>
          have HEC := Lib.hid hec
          have hn1 : (e0 != 0) = true := by simpa using hne
          have hn2 : (e0 == 0) = false := by simpa using hne
          have H := Lib.hid (show nfF x = (e0, (k : Int)) by
            have ho : ocode x.init.length (nop x.ops k) = e0 := by rw [hO, ocode_eq, HEC.out, if_pos hne]
            rw [nf_bad h18.1 h18.2 hv hg (by omega) hlt HJ.out (by rw [ho]; exact hne), ho])
          clear hne hec
          go_wp2_with (go_at_call 15; refine (at_any _ _ _).mono ?_; rintro e w3 ⟨rfl, hb3⟩; have hF3 := Lib.hid (HF2.out.to hb3); obtain ⟨_, ⟨_, _, _, _⟩, ⟨_, l0, l1, g0, g1⟩⟩ := hF3.out)
          all_goals
            refine post_fault (g := w.heap.size + 1) (x := .int .i64 e0) (y := .int .i64 k) Try.results8 rfl (hF3.out.two.set _ _) ?_
            exact ⟨ret_val (by rw [H.out]), (hF3.out.below.setCell (by simp) _).setCell (by simp) _⟩
        case inl =>
          have HJ2 := Lib.hid hj
          have HCP := Lib.hid hcp
          clear hj hcp
          by_cases hlm : m < o.ch.length
          case neg =>
            have hec : ecode x.init.length o = 0 := by unfold ecode; rw [if_neg (by simp [HCP.out]), hc_good (fun j hj => HJ2.out j (by omega))]
            have hoc := ocode_eq x.init.length o
            rw [hec, if_neg (by simp)] at hoc
            cases hcost : inB o.cost 0 100
            · rw [hcost] at hoc
              have H := Lib.hid (show nfF x = (3, (k : Int)) by
                rw [nf_bad h18.1 h18.2 hv hg (by omega) hlt HJ.out (by rw [hO, hoc]; simp), hO, hoc]; rfl)
              clear hec hoc
              go_wp2_with (first | (go_at_call 16; refine (in_any _ _ _ _).mono ?_; rintro e w' ⟨rfl, rfl⟩) | (go_at_call 15; refine (at_any _ _ _).mono ?_; rintro e w3 ⟨rfl, hb3⟩; have hF3 := Lib.hid (HF2.out.to hb3); obtain ⟨_, ⟨_, _, _, _⟩, ⟨_, l0, l1, g0, g1⟩⟩ := hF3.out))
              refine post_fault (g := w.heap.size + 1) (x := .int .i64 3) (y := .int .i64 k) Try.results8 rfl (hF3.out.two.set _ _) ?_
              exact ⟨ret_val (by rw [H.out]), (hF3.out.below.setCell (by simp) _).setCell (by simp) _⟩
            · rw [hcost] at hoc
              have HOC := Lib.hid (show ocode x.init.length (nop x.ops k) = 0 by rw [hO, hoc]; rfl)
              clear hec hoc
              go_wp2_with (go_at_call 16; refine (in_any _ _ _ _).mono ?_; rintro e w' ⟨rfl, rfl⟩)
              go_roundw
              case rel => exact ⟨k + 1, by omega, by go_num, all_step HJ.out HOC.out, HF2.out⟩
              case measure => simp [intOf]; omega
          case pos =>
            obtain ⟨b', p', a', ca', hac, hbl', ⟨r0, r1, r2⟩, hf⟩ := (HCH.out _ (HB1.out.trans (HB2.out.mono HB1.out.size))).at_ hlm
            rw [hac] at o1
            have HAC := Lib.hid hac
            clear hac
            have hal : Below wr.heap.size wr (wr.alloc (.cells #[.int .i64 (chg o.ch m).v, .slice a' (chg o.ch m).f.length ca', .int .i64 (chg o.ch m).c] 55)) := by go_grown
            have HFK := Lib.hid (hf.to hal hal.size)
            have HAL := Lib.hid hal
            clear hf hal
            have hch1 : ch1 x.init.length o.ch m = if inB (chg o.ch m).v 0 ((x.init.length : Int) - 1) && okL 1000 x.init.length (chg o.ch m).f && inB (chg o.ch m).c (-1000) 1000 then (if 0 < m ∧ (chg o.ch m).v ≤ (chg o.ch (m - 1)).v then 5 else 0) else 3 := rfl
            have hec0 : ecode x.init.length o = hcode x.init.length o.ch := by unfold ecode; rw [if_neg (by simp [HCP.out])]
            have HEC := Lib.hid (fun (c : Int) (h : ch1 x.init.length o.ch m = c) (h0 : c ≠ 0) => show ecode x.init.length o = c by rw [hec0, hc_bad hlm HJ2.out (by rw [h]; exact h0), h])
            clear hec0
            have hle2 : m < o.ch.length := hlm
            cases hb1 : inB (chg o.ch m).v 0 ((x.init.length : Int) - 1)
            · rw [hb1] at hch1
              have HE3 := Lib.hid (HEC.out 3 hch1 (by simp))
              clear hch1
              go_wp2_with (go_at_call 16; refine (in_any _ _ _ _).mono ?_; rintro e w' ⟨rfl, rfl⟩)
              go_roundw
              case rel => exact ⟨m + 1, 3, by omega, by go_num, rfl, .inr ⟨by simp, HE3.out⟩, HB2.out.trans (HAL.out.mono HB2.out.size)⟩
              case measure => simp [intOf]; omega
            rw [hb1] at hch1
            cases hb2 : okL 1000 x.init.length (chg o.ch m).f
            · rw [hb2] at hch1
              have HE3 := Lib.hid (HEC.out 3 hch1 (by simp))
              clear hch1
              go_wp2_with (first | (go_at_call 16; refine (in_any _ _ _ _).mono ?_; rintro e w' ⟨rfl, rfl⟩) | (go_at_call 25; refine (factorsOk_any x.init.length a' ca' (chg o.ch m).f _ HFK.out).mono ?_; rintro e w' ⟨rfl, rfl⟩))
              go_roundw
              case rel => exact ⟨m + 1, 3, by omega, by go_num, rfl, .inr ⟨by simp, HE3.out⟩, HB2.out.trans (HAL.out.mono HB2.out.size)⟩
              case measure => simp [intOf]; omega
            rw [hb2] at hch1
            cases hb3 : inB (chg o.ch m).c (-1000) 1000
            · rw [hb3] at hch1
              have HE3 := Lib.hid (HEC.out 3 hch1 (by simp))
              clear hch1
              go_wp2_with (first | (go_at_call 16; refine (in_any _ _ _ _).mono ?_; rintro e w' ⟨rfl, rfl⟩) | (go_at_call 25; refine (factorsOk_any x.init.length a' ca' (chg o.ch m).f _ HFK.out).mono ?_; rintro e w' ⟨rfl, rfl⟩))
              go_roundw
              case rel => exact ⟨m + 1, 3, by omega, by go_num, rfl, .inr ⟨by simp, HE3.out⟩, HB2.out.trans (HAL.out.mono HB2.out.size)⟩
              case measure => simp [intOf]; omega
            rw [hb3] at hch1
            have hch2 : ch1 x.init.length o.ch m = if 0 < m ∧ (chg o.ch m).v ≤ (chg o.ch (m - 1)).v then 5 else 0 := by simpa using hch1
            clear hch1
            by_cases h0m : m = 0
            case pos =>
              have HE0 := Lib.hid (show ch1 x.init.length o.ch m = 0 by rw [hch2, if_neg (by omega)])
              have hm0 : decide ((0 : Int) < (m : Int)) = false := by simp; omega
              have hm1 : decide (0 < m) = false := by simp; omega
              have hm2 : ¬ (0 < m) := by omega
              have HM0 := Lib.hid h0m
              clear hch2 h0m
              go_wp2_with (first | (go_at_call 16; refine (in_any _ _ _ _).mono ?_; rintro e w' ⟨rfl, rfl⟩) | (go_at_call 25; refine (factorsOk_any x.init.length a' ca' (chg o.ch m).f _ HFK.out).mono ?_; rintro e w' ⟨rfl, rfl⟩))
              go_quiet (fail)
              go_wp2
              go_roundw
              case rel => exact ⟨m + 1, 0, by omega, by go_num, rfl, .inl ⟨rfl, HCP.out, all_step HJ2.out HE0.out⟩, belowN (HB2.out.trans (HAL.out.mono HB2.out.size)) _⟩
              case measure => simp [intOf]; omega
            have hm0 : decide ((0 : Int) < (m : Int)) = true := by simp; omega
            have hm1 : decide (0 < m) = true := by simp; omega
            have hm2 : 0 < m := by omega
            have hwm : IntKind.i64.wrap ((m : Int) - 1) = ((m - 1 : Nat) : Int) := by rw [IntWalk.i64_in _ (by omega)]; omega
            have hlm1 : m - 1 < o.ch.length := by omega
            obtain ⟨b'', p'', a'', ca'', hac2, _, ⟨s0, _, _⟩, _⟩ := (HCH.out _ (HB1.out.trans (HB2.out.mono HB1.out.size))).at_ hlm1
            rw [HAC.out] at hac2
            cases hac2
            by_cases hle3 : (chg o.ch m).v ≤ (chg o.ch (m - 1)).v
            case pos =>
              have HE5 := Lib.hid (HEC.out 5 (by rw [hch2, if_pos ⟨by omega, hle3⟩]) (by simp))
              have hd5 : decide ((chg o.ch m).v ≤ (chg o.ch (m - 1)).v) = true := decide_eq_true hle3
              clear hch2 hle3
              go_wp2_with (first | (go_at_call 16; refine (in_any _ _ _ _).mono ?_; rintro e w' ⟨rfl, rfl⟩) | (go_at_call 25; refine (factorsOk_any x.init.length a' ca' (chg o.ch m).f _ HFK.out).mono ?_; rintro e w' ⟨rfl, rfl⟩))
              go_quiet (fail)
              go_wp2
              go_roundw
              case rel => exact ⟨m + 1, 5, by omega, by go_num, rfl, .inr ⟨by simp, HE5.out⟩, belowN (HB2.out.trans (HAL.out.mono HB2.out.size)) _⟩
              case measure => simp [intOf]; omega
            case neg =>
              have HE0 := Lib.hid (show ch1 x.init.length o.ch m = 0 by rw [hch2, if_neg (fun h => hle3 h.2)])
              have hd5 : decide ((chg o.ch m).v ≤ (chg o.ch (m - 1)).v) = false := decide_eq_false hle3
              clear hch2 hle3
              go_wp2_with (first | (go_at_call 16; refine (in_any _ _ _ _).mono ?_; rintro e w' ⟨rfl, rfl⟩) | (go_at_call 25; refine (factorsOk_any x.init.length a' ca' (chg o.ch m).f _ HFK.out).mono ?_; rintro e w' ⟨rfl, rfl⟩))
              go_quiet (fail)
              go_wp2
              go_roundw
              case rel => exact ⟨m + 1, 0, by omega, by go_num, rfl, .inl ⟨rfl, HCP.out, all_step HJ2.out HE0.out⟩, belowN (HB2.out.trans (HAL.out.mono HB2.out.size)) _⟩
              case measure => simp [intOf]; omega
end Go.Proofs.Ytiafplmaigpmeaa
