/- TaskFault of the reference. -/
import Derived.Test.YtiaobanloakplaaDoorKB
namespace Go.Proofs.YtiaobanloakplaaDoor
open Go.RowKit
set_option linter.unusedSimpArgs false
set_option linter.unusedVariables false
set_option maxRecDepth 100000

/-- A call that has boxed a task at g and a fault behind it. -/
structure Fr1 (w W : World) (x : Tsk) (u v : Int) : Prop where
  below : Below w.heap.size w W
  box : TBox W w.heap.size x
  two : Two W (w.heap.size + 1) (.int .i64 u) (.int .i64 v)
theorem Fr1.to {w W W' : World} {x : Tsk} {u v : Int} (h : Fr1 w W x u v) (hb : Below W.heap.size W W') : Fr1 w W' x u v :=
  ⟨h.below.trans (hb.mono h.below.size), h.box.to hb h.box.lt, h.two.to hb h.two.lt⟩
theorem Fr1.alloc {w W : World} {x : Tsk} {u v : Int} (h : Fr1 w W x u v) (o : Obj) : Fr1 w (W.alloc o) x u v := h.to ((Below.refl _ _).alloc (Nat.le_refl _) _)
theorem fr1_new (w : World) (x : Tsk) (t t' : TypeId) : Fr1 w ((w.alloc (.cells #[.int .i64 x.n, .slice x.ai x.init.length x.ci, .slice x.ag x.goal.length x.cg, .slice x.ao x.ops.length x.co] t)).alloc (.cells #[.int .i64 0, .int .i64 0] t')) x 0 0 :=
  ⟨by go_grown, ⟨by simp; omega, by simp, by simp, by simp, by simp⟩, ⟨by simp, by simp, by simp, by simp, by simp⟩⟩

/-- Block g is the box of an operator. -/
structure OBox (w : World) (g : Nat) (o : Opr) (a1 a2 a3 : Option Addr) (c1 c2 c3 : Nat) : Prop where
  lt : g < w.heap.size
  c0 : w.cell? ⟨g, 0, none⟩ = some (.slice a1 o.pre.length c1)
  c1 : w.cell? ⟨g, 1, none⟩ = some (.slice a2 o.add.length c2)
  c2 : w.cell? ⟨g, 2, none⟩ = some (.slice a3 o.del.length c3)
  c3 : w.cell? ⟨g, 3, none⟩ = some (.int .i64 o.cost)
theorem OBox.to {w w' : World} {g : Nat} {o : Opr} {a1 a2 a3 : Option Addr} {c1 c2 c3 : Nat} (h : OBox w g o a1 a2 a3 c1 c2 c3) (hb : Below w.heap.size w w') : OBox w' g o a1 a2 a3 c1 c2 c3 :=
  ⟨Nat.lt_of_lt_of_le h.lt hb.size, (hb.cell (p := ⟨g, 0, none⟩) h.lt).trans h.c0, (hb.cell (p := ⟨g, 1, none⟩) h.lt).trans h.c1, (hb.cell (p := ⟨g, 2, none⟩) h.lt).trans h.c2, (hb.cell (p := ⟨g, 3, none⟩) h.lt).trans h.c3⟩
theorem obox_new (w : World) (o : Opr) (a1 a2 a3 : Option Addr) (c1 c2 c3 : Nat) (t : TypeId) : OBox (w.alloc (.cells #[.slice a1 o.pre.length c1, .slice a2 o.add.length c2, .slice a3 o.del.length c3, .int .i64 o.cost] t)) w.heap.size o a1 a2 a3 c1 c2 c3 := ⟨by simp, by simp, by simp, by simp, by simp⟩
structure Fr2 (w W : World) (x : Tsk) (u v : Int) (g : Nat) (o : Opr) (a1 a2 a3 : Option Addr) (c1 c2 c3 : Nat) : Prop where
  fr : Fr1 w W x u v
  box : OBox W g o a1 a2 a3 c1 c2 c3
  vals : OpV W W.heap.size o a1 a2 a3 c1 c2 c3
theorem Fr2.to {w W W' : World} {x : Tsk} {u v : Int} {g : Nat} {o : Opr} {a1 a2 a3 : Option Addr} {c1 c2 c3 : Nat} (h : Fr2 w W x u v g o a1 a2 a3 c1 c2 c3) (hb : Below W.heap.size W W') : Fr2 w W' x u v g o a1 a2 a3 c1 c2 c3 :=
  ⟨h.fr.to hb, h.box.to hb, h.vals.to hb hb.size⟩
theorem isSetR_fr {w W : World} {x : Tsk} {u v : Int} {g : Nat} {o : Opr} {a1 a2 a3 : Option Addr} {c1 c2 c3 : Nat} (hF : Fr2 w W x u v g o a1 a2 a3 c1 c2 c3) (A : Option Addr) (c : Nat) (l : List Int) (n : Int) (hn0 : 0 ≤ n) (hn : n ≤ 24) (hL : Lst W W.heap.size A c l) :
    Calls Tryd.prog 35 #[.slice A l.length c, .int .i64 n] W fun e w' => e = .returned (.bool (setB l n)) ∧ Fr2 w w' x u v g o a1 a2 a3 c1 c2 c3 :=
  (isSetR_any A c l n W hn0 hn hL.nums hL.len).mono fun _ _ ⟨he, hb⟩ => ⟨he, hF.to hb⟩
theorem at_fr2 {w W : World} {x : Tsk} {u v : Int} {g : Nat} {o : Opr} {a1 a2 a3 : Option Addr} {c1 c2 c3 : Nat} (hF : Fr2 w W x u v g o a1 a2 a3 c1 c2 c3) (y z : Int) :
    Calls Tryd.prog 18 #[.int .i64 y, .int .i64 z] W fun e w' => e = .returned (.agg #[.int .i64 y, .int .i64 z]) ∧ Fr2 w w' x u v g o a1 a2 a3 c1 c2 c3 :=
  (at_any y z W).mono fun _ _ ⟨he, hb⟩ => ⟨he, hF.to hb⟩

set_option maxHeartbeats 4000000 in
theorem taskFault_any (x : Tsk) (w : World) (hX : TskIn w w.heap.size x) :
    Calls Tryd.prog 34 #[.agg #[.int .i64 x.n, .slice x.ai x.init.length x.ci, .slice x.ag x.goal.length x.cg, .slice x.ao x.ops.length x.co]] w fun e w' => e = .returned (faultV (tkF x)) ∧ Below w.heap.size w w' := by
  have hlen := hX.len
  unfold maxLen at hlen
  have HX := Lib.hid (fun (W : World) (h : Below w.heap.size w W) => hX.to h h.size)
  clear hX
  have hF0 := Lib.hid (fr1_new w x 25 28)
  by_cases hA : x.n < 0 ∨ 24 < x.n
  · have H := Lib.hid (show tkF x = (3, -1) by simp [tkF, hA])
    have hi : inB x.n 0 24 = false := by unfold inB; exact decide_eq_false (by omega)
    clear hA
    go_enter Tryd.func34, Tryd.ntmps34
    go_wp2_with (first
      | (go_at_call 29; refine (in_any _ _ _ _).mono ?_; rintro e w' ⟨rfl, rfl⟩)
      | (go_at_call 18; refine (at_any _ _ _).mono ?_; rintro e w' ⟨rfl, hbw⟩; have hF := Lib.hid (hF0.out.to hbw); obtain ⟨_, ⟨_, t0, t1, t2, t3⟩, ⟨_, k0, k1, f0, f1⟩⟩ := hF.out))
    refine post_fault (g := w.heap.size + 1) (x := .int .i64 3) (y := .int .i64 (-1)) Tryd.results34 rfl (hF.out.two.set _ _) ?_
    exact ⟨ret_val (by rw [H.out]), (hF.out.below.setCell (by simp) _).setCell (by simp) _⟩
  obtain ⟨h0, h24⟩ : 0 ≤ x.n ∧ x.n ≤ 24 := by omega
  have hi : inB x.n 0 24 = true := by unfold inB; exact decide_eq_true (by omega)
  have I1 := Lib.hid (fun (W : World) (h : Below w.heap.size w W) => isSetR_any x.ai x.ci x.init x.n W h0 h24 (HX.out W h).init.nums (HX.out W h).init.len)
  have I2 := Lib.hid (fun (W : World) (h : Below w.heap.size w W) => isSetR_any x.ag x.cg x.goal x.n W h0 h24 (HX.out W h).goal.nums (HX.out W h).goal.len)
  cases h2 : setB x.init x.n
  case false =>
    have H := Lib.hid (show tkF x = (5, -2) by simp [tkF, hA, h2])
    clear hA
    go_enter Tryd.func34, Tryd.ntmps34
    go_wp2_with (first
      | (go_at_call 29; refine (in_any _ _ _ _).mono ?_; rintro e w' ⟨rfl, rfl⟩)
      | (go_at_call 35; (with_reducible refine (I1.out _ hF0.out.below).mono ?_); rintro e w1 ⟨rfl, hbw⟩; have hF1 := Lib.hid (hF0.out.to hbw); obtain ⟨_, ⟨_, t0, t1, t2, t3⟩, ⟨_, k0, k1, f0, f1⟩⟩ := hF1.out)
      | (go_at_call 18; refine (at_any _ _ _).mono ?_; rintro e w' ⟨rfl, hbw⟩; have hF := Lib.hid (hF1.out.to hbw); obtain ⟨_, ⟨_, t0, t1, t2, t3⟩, ⟨_, k0, k1, f0, f1⟩⟩ := hF.out))
    refine post_fault (g := w.heap.size + 1) (x := .int .i64 5) (y := .int .i64 (-2)) Tryd.results34 rfl (hF.out.two.set _ _) ?_
    exact ⟨ret_val (by rw [H.out]), (hF.out.below.setCell (by simp) _).setCell (by simp) _⟩
  cases h3 : setB x.goal x.n
  case false =>
    have H := Lib.hid (show tkF x = (5, -3) by simp [tkF, hA, h2, h3])
    clear hA
    go_enter Tryd.func34, Tryd.ntmps34
    go_wp2_with (first
      | (go_at_call 29; refine (in_any _ _ _ _).mono ?_; rintro e w' ⟨rfl, rfl⟩)
      | (go_at_call 35; (with_reducible refine (I1.out _ hF0.out.below).mono ?_); rintro e w1 ⟨rfl, hbw⟩; have hF1 := Lib.hid (hF0.out.to hbw); obtain ⟨_, ⟨_, t0, t1, t2, t3⟩, ⟨_, k0, k1, f0, f1⟩⟩ := hF1.out)
      | (go_at_call 35; (with_reducible refine (I2.out _ hF1.out.below).mono ?_); rintro e w2 ⟨rfl, hbw⟩; have hF2 := Lib.hid (hF1.out.to hbw); obtain ⟨_, ⟨_, t0, t1, t2, t3⟩, ⟨_, k0, k1, f0, f1⟩⟩ := hF2.out)
      | (go_at_call 18; refine (at_any _ _ _).mono ?_; rintro e w' ⟨rfl, hbw⟩; have hF := Lib.hid (hF2.out.to hbw); obtain ⟨_, ⟨_, t0, t1, t2, t3⟩, ⟨_, k0, k1, f0, f1⟩⟩ := hF.out))
    refine post_fault (g := w.heap.size + 1) (x := .int .i64 5) (y := .int .i64 (-3)) Tryd.results34 rfl (hF.out.two.set _ _) ?_
    exact ⟨ret_val (by rw [H.out]), (hF.out.below.setCell (by simp) _).setCell (by simp) _⟩
  by_cases h4 : 40 < x.ops.length
  · have H := Lib.hid (show tkF x = (2, -1) by simp [tkF, hA, h2, h3, h4])
    clear hA
    go_enter Tryd.func34, Tryd.ntmps34
    go_wp2_with (first
      | (go_at_call 29; refine (in_any _ _ _ _).mono ?_; rintro e w' ⟨rfl, rfl⟩)
      | (go_at_call 35; (with_reducible refine (I1.out _ hF0.out.below).mono ?_); rintro e w1 ⟨rfl, hbw⟩; have hF1 := Lib.hid (hF0.out.to hbw); obtain ⟨_, ⟨_, t0, t1, t2, t3⟩, ⟨_, k0, k1, f0, f1⟩⟩ := hF1.out)
      | (go_at_call 35; (with_reducible refine (I2.out _ hF1.out.below).mono ?_); rintro e w2 ⟨rfl, hbw⟩; have hF2 := Lib.hid (hF1.out.to hbw); obtain ⟨_, ⟨_, t0, t1, t2, t3⟩, ⟨_, k0, k1, f0, f1⟩⟩ := hF2.out)
      | (go_at_call 18; refine (at_any _ _ _).mono ?_; rintro e w' ⟨rfl, hbw⟩; have hF := Lib.hid (hF2.out.to hbw); obtain ⟨_, ⟨_, t0, t1, t2, t3⟩, ⟨_, k0, k1, f0, f1⟩⟩ := hF.out))
    refine post_fault (g := w.heap.size + 1) (x := .int .i64 2) (y := .int .i64 (-1)) Tryd.results34 rfl (hF.out.two.set _ _) ?_
    exact ⟨ret_val (by rw [H.out]), (hF.out.below.setCell (by simp) _).setCell (by simp) _⟩
  have H := Lib.hid (tkF_loop h0 h24 h2 h3 (by omega))
  have h4' : x.ops.length ≤ 40 := by omega
  clear hA h4
  go_enter Tryd.func34, Tryd.ntmps34
  go_wp2_with (first
    | (go_at_call 29; refine (in_any _ _ _ _).mono ?_; rintro e w' ⟨rfl, rfl⟩)
    | (go_at_call 35; (with_reducible refine (I1.out _ hF0.out.below).mono ?_); rintro e w1 ⟨rfl, hbw⟩; have hF1 := Lib.hid (hF0.out.to hbw); obtain ⟨_, ⟨_, t0, t1, t2, t3⟩, ⟨_, k0, k1, f0, f1⟩⟩ := hF1.out)
    | (go_at_call 35; (with_reducible refine (I2.out _ hF1.out.below).mono ?_); rintro e w2 ⟨rfl, hbw⟩; have hF2 := Lib.hid (hF1.out.to hbw); obtain ⟨_, ⟨_, t0, t1, t2, t3⟩, ⟨_, k0, k1, f0, f1⟩⟩ := hF2.out))
  go_loopw [3] (fun i wr => ∃ k : Nat, k ≤ x.ops.length ∧ i = .int .i64 k ∧ Fr1 w wr x 0 0 ∧ ∀ j, j < k → opF x j = 0) (fun i _ => x.ops.length - (intOf i).toNat)
  case atStart => exact ⟨0, by omega, rfl, hF2.out, by omega⟩
  case round =>
    obtain ⟨k, hk, rfl, hfr, hj⟩ := hrel
    have HJ := Lib.hid hj
    clear hj
    have HF := Lib.hid hfr
    clear hfr
    obtain ⟨_, ⟨_, t0, t1, t2, t3⟩, ⟨_, k0, k1, f0, f1⟩⟩ := HF.out
    by_cases hlt : k < x.ops.length
    · obtain ⟨b, p, a1, a2, a3, c1, c2, c3, hao, hbl, ⟨q0, q1, q2, q3⟩, hOV⟩ := (HX.out _ HF.out.below).ops.at_ hlt
      have hF := Lib.hid (show Fr2 w (wr.alloc (.cells #[.slice a1 (opr x.ops k).pre.length c1, .slice a2 (opr x.ops k).add.length c2, .slice a3 (opr x.ops k).del.length c3, .int .i64 (opr x.ops k).cost] 79)) x 0 0 wr.heap.size (opr x.ops k) a1 a2 a3 c1 c2 c3 from ⟨HF.out.alloc _, obox_new _ _ _ _ _ _ _ _ _, hOV.to ((Below.refl _ _).alloc (Nat.le_refl _) _) (by simp)⟩)
      clear hOV
      have hao2 := Lib.hid hao
      rw [hao] at t3
      clear hao
      cases g1 : setB (opr x.ops k).pre x.n && setB (opr x.ops k).add x.n && setB (opr x.ops k).del x.n
      case false =>
        have H0 := Lib.hid (show opF x k = 5 from opCode_s g1)
        cases g2 : setB (opr x.ops k).pre x.n
        case' true =>
          cases g3 : setB (opr x.ops k).add x.n
        case' true.true =>
          cases g4 : setB (opr x.ops k).del x.n
        case true.true.true => simp [g2, g3, g4] at g1
        all_goals
          clear g1
          go_wp2_with (first | (go_at_call 35; (with_reducible refine (isSetR_fr hF.out a1 c1 (opr x.ops k).pre x.n h0 h24 hF.out.vals.pre).mono ?_); rintro e w1 ⟨rfl, h⟩; have hF := Lib.hid h; clear h; obtain ⟨⟨_, ⟨_, t0, t1, t2, t3⟩, ⟨_, k0, k1, f0, f1⟩⟩, ⟨_, o0, o1, o2, o3⟩, _⟩ := hF.out) | (go_at_call 35; (with_reducible refine (isSetR_fr hF.out a2 c2 (opr x.ops k).add x.n h0 h24 hF.out.vals.add).mono ?_); rintro e w1 ⟨rfl, h⟩; have hF := Lib.hid h; clear h; obtain ⟨⟨_, ⟨_, t0, t1, t2, t3⟩, ⟨_, k0, k1, f0, f1⟩⟩, ⟨_, o0, o1, o2, o3⟩, _⟩ := hF.out) | (go_at_call 35; (with_reducible refine (isSetR_fr hF.out a3 c3 (opr x.ops k).del x.n h0 h24 hF.out.vals.del).mono ?_); rintro e w1 ⟨rfl, h⟩; have hF := Lib.hid h; clear h; obtain ⟨⟨_, ⟨_, t0, t1, t2, t3⟩, ⟨_, k0, k1, f0, f1⟩⟩, ⟨_, o0, o1, o2, o3⟩, _⟩ := hF.out) | (go_at_call 68; (with_reducible refine (disjoint_any _ _ _ _ (opr x.ops k).add (opr x.ops k).del _ hF.out.vals.add.nums hF.out.vals.del.nums hF.out.vals.add.len hF.out.vals.del.len).mono ?_); rintro e w1 ⟨rfl, rfl⟩) | (go_at_call 29; refine (in_any _ _ _ _).mono ?_; rintro e w' ⟨rfl, rfl⟩) | (go_at_call 18; refine (at_fr2 hF.out _ _).mono ?_; rintro e w1 ⟨rfl, h⟩; have hF := Lib.hid h; clear h; obtain ⟨⟨_, ⟨_, t0, t1, t2, t3⟩, ⟨_, k0, k1, f0, f1⟩⟩, ⟨_, o0, o1, o2, o3⟩, _⟩ := hF.out))
          refine post_fault (g := w.heap.size + 1) (x := .int .i64 5) (y := .int .i64 k) Tryd.results34 rfl (hF.out.fr.two.set _ _) ?_
          exact ⟨ret_val (by rw [H.out, firstF_hit hlt (by rw [H0.out]; decide) HJ.out, H0.out]; rfl), (hF.out.fr.below.setCell (by simp) _).setCell (by simp) _⟩
      case true =>
        simp only [Bool.and_eq_true] at g1
        obtain ⟨⟨g2, g3⟩, g4⟩ := g1
        cases g5 : disB (opr x.ops k).add (opr x.ops k).del
        case false =>
          have H0 := Lib.hid (show opF x k = 5 from opCode_d g5)
          go_wp2_with (first | (go_at_call 35; (with_reducible refine (isSetR_fr hF.out a1 c1 (opr x.ops k).pre x.n h0 h24 hF.out.vals.pre).mono ?_); rintro e w1 ⟨rfl, h⟩; have hF := Lib.hid h; clear h; obtain ⟨⟨_, ⟨_, t0, t1, t2, t3⟩, ⟨_, k0, k1, f0, f1⟩⟩, ⟨_, o0, o1, o2, o3⟩, _⟩ := hF.out) | (go_at_call 35; (with_reducible refine (isSetR_fr hF.out a2 c2 (opr x.ops k).add x.n h0 h24 hF.out.vals.add).mono ?_); rintro e w1 ⟨rfl, h⟩; have hF := Lib.hid h; clear h; obtain ⟨⟨_, ⟨_, t0, t1, t2, t3⟩, ⟨_, k0, k1, f0, f1⟩⟩, ⟨_, o0, o1, o2, o3⟩, _⟩ := hF.out) | (go_at_call 35; (with_reducible refine (isSetR_fr hF.out a3 c3 (opr x.ops k).del x.n h0 h24 hF.out.vals.del).mono ?_); rintro e w1 ⟨rfl, h⟩; have hF := Lib.hid h; clear h; obtain ⟨⟨_, ⟨_, t0, t1, t2, t3⟩, ⟨_, k0, k1, f0, f1⟩⟩, ⟨_, o0, o1, o2, o3⟩, _⟩ := hF.out) | (go_at_call 68; (with_reducible refine (disjoint_any _ _ _ _ (opr x.ops k).add (opr x.ops k).del _ hF.out.vals.add.nums hF.out.vals.del.nums hF.out.vals.add.len hF.out.vals.del.len).mono ?_); rintro e w1 ⟨rfl, rfl⟩) | (go_at_call 29; refine (in_any _ _ _ _).mono ?_; rintro e w' ⟨rfl, rfl⟩) | (go_at_call 18; refine (at_fr2 hF.out _ _).mono ?_; rintro e w1 ⟨rfl, h⟩; have hF := Lib.hid h; clear h; obtain ⟨⟨_, ⟨_, t0, t1, t2, t3⟩, ⟨_, k0, k1, f0, f1⟩⟩, ⟨_, o0, o1, o2, o3⟩, _⟩ := hF.out))
          refine post_fault (g := w.heap.size + 1) (x := .int .i64 5) (y := .int .i64 k) Tryd.results34 rfl (hF.out.fr.two.set _ _) ?_
          exact ⟨ret_val (by rw [H.out, firstF_hit hlt (by rw [H0.out]; decide) HJ.out, H0.out]; rfl), (hF.out.fr.below.setCell (by simp) _).setCell (by simp) _⟩
        case true =>
          have hQ := opCode_c g2 g3 g4 g5
          by_cases g6 : (opr x.ops k).cost < 0 ∨ 100 < (opr x.ops k).cost
          · rw [if_pos g6] at hQ
            have H0 := Lib.hid (show opF x k = 3 from hQ)
            have hi2 : inB (opr x.ops k).cost 0 100 = false := by unfold inB; exact decide_eq_false (by omega)
            clear hQ g6
            go_wp2_with (first | (go_at_call 35; (with_reducible refine (isSetR_fr hF.out a1 c1 (opr x.ops k).pre x.n h0 h24 hF.out.vals.pre).mono ?_); rintro e w1 ⟨rfl, h⟩; have hF := Lib.hid h; clear h; obtain ⟨⟨_, ⟨_, t0, t1, t2, t3⟩, ⟨_, k0, k1, f0, f1⟩⟩, ⟨_, o0, o1, o2, o3⟩, _⟩ := hF.out) | (go_at_call 35; (with_reducible refine (isSetR_fr hF.out a2 c2 (opr x.ops k).add x.n h0 h24 hF.out.vals.add).mono ?_); rintro e w1 ⟨rfl, h⟩; have hF := Lib.hid h; clear h; obtain ⟨⟨_, ⟨_, t0, t1, t2, t3⟩, ⟨_, k0, k1, f0, f1⟩⟩, ⟨_, o0, o1, o2, o3⟩, _⟩ := hF.out) | (go_at_call 35; (with_reducible refine (isSetR_fr hF.out a3 c3 (opr x.ops k).del x.n h0 h24 hF.out.vals.del).mono ?_); rintro e w1 ⟨rfl, h⟩; have hF := Lib.hid h; clear h; obtain ⟨⟨_, ⟨_, t0, t1, t2, t3⟩, ⟨_, k0, k1, f0, f1⟩⟩, ⟨_, o0, o1, o2, o3⟩, _⟩ := hF.out) | (go_at_call 68; (with_reducible refine (disjoint_any _ _ _ _ (opr x.ops k).add (opr x.ops k).del _ hF.out.vals.add.nums hF.out.vals.del.nums hF.out.vals.add.len hF.out.vals.del.len).mono ?_); rintro e w1 ⟨rfl, rfl⟩) | (go_at_call 29; refine (in_any _ _ _ _).mono ?_; rintro e w' ⟨rfl, rfl⟩) | (go_at_call 18; refine (at_fr2 hF.out _ _).mono ?_; rintro e w1 ⟨rfl, h⟩; have hF := Lib.hid h; clear h; obtain ⟨⟨_, ⟨_, t0, t1, t2, t3⟩, ⟨_, k0, k1, f0, f1⟩⟩, ⟨_, o0, o1, o2, o3⟩, _⟩ := hF.out))
            refine post_fault (g := w.heap.size + 1) (x := .int .i64 3) (y := .int .i64 k) Tryd.results34 rfl (hF.out.fr.two.set _ _) ?_
            exact ⟨ret_val (by rw [H.out, firstF_hit hlt (by rw [H0.out]; decide) HJ.out, H0.out]; rfl), (hF.out.fr.below.setCell (by simp) _).setCell (by simp) _⟩
          · rw [if_neg g6] at hQ
            have H0 := Lib.hid (show opF x k = 0 from hQ)
            have hi2 : inB (opr x.ops k).cost 0 100 = true := by unfold inB; exact decide_eq_true (by omega)
            clear hQ g6
            go_wp2_with (first | (go_at_call 35; (with_reducible refine (isSetR_fr hF.out a1 c1 (opr x.ops k).pre x.n h0 h24 hF.out.vals.pre).mono ?_); rintro e w1 ⟨rfl, h⟩; have hF := Lib.hid h; clear h; obtain ⟨⟨_, ⟨_, t0, t1, t2, t3⟩, ⟨_, k0, k1, f0, f1⟩⟩, ⟨_, o0, o1, o2, o3⟩, _⟩ := hF.out) | (go_at_call 35; (with_reducible refine (isSetR_fr hF.out a2 c2 (opr x.ops k).add x.n h0 h24 hF.out.vals.add).mono ?_); rintro e w1 ⟨rfl, h⟩; have hF := Lib.hid h; clear h; obtain ⟨⟨_, ⟨_, t0, t1, t2, t3⟩, ⟨_, k0, k1, f0, f1⟩⟩, ⟨_, o0, o1, o2, o3⟩, _⟩ := hF.out) | (go_at_call 35; (with_reducible refine (isSetR_fr hF.out a3 c3 (opr x.ops k).del x.n h0 h24 hF.out.vals.del).mono ?_); rintro e w1 ⟨rfl, h⟩; have hF := Lib.hid h; clear h; obtain ⟨⟨_, ⟨_, t0, t1, t2, t3⟩, ⟨_, k0, k1, f0, f1⟩⟩, ⟨_, o0, o1, o2, o3⟩, _⟩ := hF.out) | (go_at_call 68; (with_reducible refine (disjoint_any _ _ _ _ (opr x.ops k).add (opr x.ops k).del _ hF.out.vals.add.nums hF.out.vals.del.nums hF.out.vals.add.len hF.out.vals.del.len).mono ?_); rintro e w1 ⟨rfl, rfl⟩) | (go_at_call 29; refine (in_any _ _ _ _).mono ?_; rintro e w' ⟨rfl, rfl⟩) | (go_at_call 18; refine (at_fr2 hF.out _ _).mono ?_; rintro e w1 ⟨rfl, h⟩; have hF := Lib.hid h; clear h; obtain ⟨⟨_, ⟨_, t0, t1, t2, t3⟩, ⟨_, k0, k1, f0, f1⟩⟩, ⟨_, o0, o1, o2, o3⟩, _⟩ := hF.out))
            go_roundw
            case rel => exact ⟨k + 1, by omega, by go_num, hF.out.fr, code_step HJ.out H0.out⟩
            case measure => simp [intOf]; omega
    · have hge : ¬ ((k : Int) < x.ops.length) := by omega
      go_wp2
      refine post_fault (g := w.heap.size + 1) (x := .int .i64 0) (y := .int .i64 0) Tryd.results34 rfl (HF.out.two.set _ _) ?_
      exact ⟨ret_val (by rw [H.out, firstF_miss (fun j hj => HJ.out j (by omega))]), (HF.out.below.setCell (by simp) _).setCell (by simp) _⟩
end Go.Proofs.YtiaobanloakplaaDoor
