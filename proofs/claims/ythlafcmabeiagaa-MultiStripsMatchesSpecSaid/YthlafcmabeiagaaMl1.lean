/- The law MultiMatchesSpec: bad tasks and states. -/
import Derived.Test.YthlafcmabeiagaaMcs
namespace Go.Proofs.Ythlafcmabeiagaa
open Go.RowKit
set_option linter.unusedSimpArgs false
set_option linter.unusedVariables false
set_option maxRecDepth 100000

theorem last7n {P1 P2 P3 P4 P5 P6 Q : Prop} (h : P1 ∧ P2 ∧ P3 ∧ P4 ∧ P5 ∧ P6 ∧ Q) : Q := h.2.2.2.2.2.2
theorem bel_up {U V V' : World} (h : Below U.heap.size U V) (h2 : Below V.heap.size V V') : Below U.heap.size U V' := h.trans (h2.mono h.size)
/-- The law's task and its wanted fault. -/
structure WM (w W : World) (x : MT) (g : Nat) (u v : Int) : Prop where
  below : Below w.heap.size w W
  box : MBox W w.heap.size x
  gt : w.heap.size < g
  two : Two W g (.int .i64 u) (.int .i64 v)
theorem WM.to {w W W' : World} {x : MT} {g : Nat} {u v : Int} (h : WM w W x g u v) (hb : Below W.heap.size W W') : WM w W' x g u v :=
  ⟨h.below.trans (hb.mono h.below.size), h.box.to hb h.box.lt, h.gt, two_to h.two hb⟩
theorem WM.toB {w W W' : World} {x : MT} {g : Nat} {u v : Int} {base : Nat} (h : WM w W x g u v) (hb : Below base W W') (hg : g < base) : WM w W' x g u v := by
  have h1 := h.gt
  exact ⟨h.below.trans (hb.mono (by omega)), h.box.to hb (by omega), h.gt, h.two.to hb hg⟩
theorem WM.set {w W : World} {x : MT} {g : Nat} {u v : Int} (h : WM w W x g u v) (u' v' : Int) : WM w ((W.setCell ⟨g, 0, none⟩ (.int .i64 u')).setCell ⟨g, 1, none⟩ (.int .i64 v')) x g u' v' := by
  have hg := h.gt
  exact ⟨(h.below.setCell (by simp; omega) _).setCell (by simp; omega) _, (h.box.far (by simp; omega) _).far (by simp; omega) _, hg, h.two.set _ _⟩
theorem wm_new {w wF : World} {x : MT} (hb : Below w.heap.size w wF) (hx : MBox wF w.heap.size x) (u v : Int) : WM w (wF.alloc (.cells #[.int .i64 u, .int .i64 v] 28)) x wF.heap.size u v :=
  ⟨hb.alloc hb.size _, hx.to ((Below.refl _ _).alloc (Nat.le_refl _) _) hx.lt, hx.lt, two_new _ _ _ _⟩
theorem in_nil {w : World} {base : Nat} {v : Value} (h : w.ownsRow base 3 1 v 0 []) : ∃ a c, v = .slice a 0 c ∧ Calls Try.prog 14 #[v, .slice none 0 0] w fun e w' => e = .returned (.bool true) ∧ Below w.heap.size w w' := by
  obtain ⟨a, c, e, hl, _⟩ := own_lst (l := []) h
  exact ⟨a, c, e, by rw [e]; exact ints_same a none c 0 [] [] rfl w hl (lst_nil _ _)⟩
set_option maxHeartbeats 8000000 in
theorem mm_bad (x : MT) (A : Option Addr) (c : Nat) (s : List Int) (op : Int) (w : World) (hX : MTIn w w.heap.size x) (hS : Lst w w.heap.size A c s) (hA : A = none → c = 0) (r : Int × Int) (hr : r.1 ≠ 0) (hk : ∀ l, ckM x s l = r) :
    Calls Try.prog 3 #[.agg #[.slice x.az x.sizes.length x.cz, .slice x.ai x.init.length x.ci, .slice x.ag x.goal.length x.cg, .slice x.ao x.ops.length x.co], .slice A s.length c, .int .i64 op] w fun e w' => e = .returned (.bool true) ∧ Below w.heap.size w w' := by
  have HX0 := Lib.hid (fun (W : World) (h : Below w.heap.size w W) => hX.to h h.size)
  have HS0 := Lib.hid (fun (W : World) (h : Below w.heap.size w W) => hS.to h h.size)
  have HB0 := Lib.hid (al_b w (.cells #[.slice x.az x.sizes.length x.cz, .slice x.ai x.init.length x.ci, .slice x.ag x.goal.length x.cg, .slice x.ao x.ops.length x.co] 26))
  have HBX := Lib.hid (mbox_new w x 26)
  have HNF := Lib.hid (multiFault_any x _ (HX0.out _ HB0.out))
  have HNV := Lib.hid (fun (W : World) (h : MTIn W W.heap.size x) => mvalidate_any x W h)
  have e1 : apL x s = [] := by unfold apL; rw [hk, if_neg hr]
  have e2 : apF x s op = r := by unfold apF; rw [hk, if_pos hr]
  have e3 : apR x s op = [] := by unfold apR; rw [e2, if_neg hr]
  have HNA := Lib.hid (fun (W : World) (h : Below w.heap.size w W) => applicable_any x A c s W (HX0.out W h) (HS0.out W h))
  have HNB := Lib.hid (fun (W : World) (h : Below w.heap.size w W) => mapply_any x A c s op W (HX0.out W h) (HS0.out W h) hA)
  rw [e1, hk] at HNA
  rw [e2, e3] at HNB
  have hne : (r.1 == 0) = false := by simpa using hr
  have hne2 : (r.1 != 0) = true := by simpa using hr
  have hno := hX.ops.max
  have hno2 := hX.ops.le
  unfold maxLen at hno
  clear hX hS e1 e2 e3 hA
  by_cases h0 : (mfF x).1 = 0
  case neg =>
    have hrm : r = mfF x := by rw [← hk []]; unfold ckM; rw [if_pos h0]
    rw [← hrm] at HNF HNV
    clear h0 hrm hr hk
    go_enter Try.func3, Try.ntmps3
    go_wp2_with (go_at_call 7; (with_reducible refine HNF.out.mono ?_); rintro e wF ⟨rfl, hb⟩; have hN := Lib.hid (wm_new (HB0.out.trans (hb.mono HB0.out.size)) (HBX.out.to hb HBX.out.lt) r.1 r.2); clear hb)
    generalize hg : wF.heap.size = g at *
    generalize hW : wF.alloc (.cells #[.int .i64 r.1, .int .i64 r.2] 28) = W1 at *
    clear hg hW
    have HSO := Lib.hid (fun (Y : World) (h : Below W1.heap.size W1 Y) => (⟨(hN.out.to h).box.c0, (hN.out.to h).box.c1, (hN.out.to h).box.c2, (hN.out.to h).box.c3, (hN.out.to h).two.fst, (hN.out.to h).two.snd, h⟩ : Y.cell? ⟨w.heap.size, 0, none⟩ = some (.slice x.az x.sizes.length x.cz) ∧ Y.cell? ⟨w.heap.size, 1, none⟩ = some (.slice x.ai x.init.length x.ci) ∧ Y.cell? ⟨w.heap.size, 2, none⟩ = some (.slice x.ag x.goal.length x.cg) ∧ Y.cell? ⟨w.heap.size, 3, none⟩ = some (.slice x.ao x.ops.length x.co) ∧ Y.cell? ⟨g, 0, none⟩ = some (.int .i64 r.1) ∧ Y.cell? ⟨g, 1, none⟩ = some (.int .i64 r.2) ∧ Below W1.heap.size W1 Y))
    have HX1 := Lib.hid (fun (Y : World) (h : Below W1.heap.size W1 Y) => HX0.out _ (hN.out.to h).below)
    have hww := Below.refl W1.heap.size W1
    go_region_held3 (fun Y => Y.cell? ⟨w.heap.size, 0, none⟩ = some (.slice x.az x.sizes.length x.cz) ∧ Y.cell? ⟨w.heap.size, 1, none⟩ = some (.slice x.ai x.init.length x.ci) ∧ Y.cell? ⟨w.heap.size, 2, none⟩ = some (.slice x.ag x.goal.length x.cg) ∧ Y.cell? ⟨w.heap.size, 3, none⟩ = some (.slice x.ao x.ops.length x.co) ∧ Y.cell? ⟨g, 0, none⟩ = some (.int .i64 r.1) ∧ Y.cell? ⟨g, 1, none⟩ = some (.int .i64 r.2) ∧ Below W1.heap.size W1 Y) (first | assumption | (refine ⟨?_, ?_, ?_, ?_, ?_, ?_, ?_⟩ <;> assumption) | (exact HSO.out _ hww.drew) | (exact HSO.out _ hww) | (exact HSO.out _ (bel_up (last7n (by assumption)) (by assumption))) | (exact HSO.out _ ((last7n (by assumption))).drew)) (first | (go_at_call 8; refine (turns_any _).mono ?_; rintro e wc ⟨rfl, hb⟩) | (go_at_call 9; refine (HNV.out _ (HX1.out _ (last7n (by assumption)))).mono ?_; rintro e wv ⟨rfl, hb⟩))
    all_goals
      have hM := Lib.hid (hN.out.to (last7n (by assumption)))
      obtain ⟨_, ⟨_, t0, t1, t2, t3⟩, _, ⟨_, k0, k1, f0, f1⟩⟩ := hM.out
      go_wp2
      go_loopw [8, 9] (fun v i wr => v = .slice none 0 0 ∧ i = .int .i64 0 ∧ WM w wr x g r.1 r.2) (fun _ _ _ => 0)
      case atStart => exact ⟨rfl, rfl, hM.out⟩
      case round =>
        clear t0 t1 t2 t3 k0 k1 f0 f1 hM
        obtain ⟨rfl, rfl, hm⟩ := hrel
        have hM := Lib.hid hm
        clear hm
        obtain ⟨_, ⟨_, t0, t1, t2, t3⟩, _, ⟨_, k0, k1, f0, f1⟩⟩ := hM.out
        go_wp2_with (first | (go_at_call 13; (with_reducible refine (HNA.out _ hM.out.below).mono ?_); rintro e wA ⟨vA, rfl, ho, hb⟩; have hM := Lib.hid ((hM.out.to hb).to (al_b wA (.cells #[.int .i64 r.1, .int .i64 r.2] 28))); have hT := Lib.hid (two_new wA (.int .i64 r.1) (.int .i64 r.2) 28); obtain ⟨aA, cA, rfl, hlA, _⟩ := own_lst (l := []) ho; have HOA := Lib.hid (hlA.to (al_b wA (.cells #[.int .i64 r.1, .int .i64 r.2] 28)) (al_b wA (.cells #[.int .i64 r.1, .int .i64 r.2] 28)).size); clear hb ho hlA; obtain ⟨_, ⟨_, t0, t1, t2, t3⟩, _, ⟨_, k0, k1, f0, f1⟩⟩ := hM.out; obtain ⟨_, l0, l1, _, _⟩ := hT.out) | (go_at_call 14; (with_reducible refine (show Calls _ _ #[.slice aA 0 cA, .slice none 0 0] _ _ from ints_same aA none cA 0 [] [] rfl _ HOA.out (lst_nil _ _)).mono ?_); rintro e wI ⟨rfl, hb⟩; have hM := Lib.hid (hM.out.to hb); clear hb; obtain ⟨_, ⟨_, t0, t1, t2, t3⟩, _, ⟨_, k0, k1, f0, f1⟩⟩ := hM.out) | (go_at_call 16; (with_reducible refine (HNB.out _ hM.out.below).mono ?_); rintro e wB ⟨vB, rfl, ho, hb⟩; have hM := Lib.hid ((hM.out.to hb).to (al_b wB (.cells #[.int .i64 r.1, .int .i64 r.2] 28))); have hT := Lib.hid (two_new wB (.int .i64 r.1) (.int .i64 r.2) 28); obtain ⟨aB, cB, rfl, hlB, _⟩ := own_lst (l := []) ho; clear hb ho hlB; obtain ⟨_, ⟨_, t0, t1, t2, t3⟩, _, ⟨_, k0, k1, f0, f1⟩⟩ := hM.out; obtain ⟨_, l0, l1, _, _⟩ := hT.out))
        all_goals
          go_ret
          exact ⟨rfl, hM.out.below⟩
  case pos =>
    obtain ⟨hv, hz⟩ := mf_val h0
    rw [hz] at HNF HNV
    have hk0 := hk []
    unfold ckM at hk0
    rw [if_neg (by simp [h0])] at hk0
    have hms : msB x.sizes s = false := by
      cases h : msB x.sizes s
      · rfl
      · rw [if_neg (by simp [h])] at hk0
        rw [← hk0] at hr
        simp [spF, planB] at hr
    rw [if_pos hms] at hk0
    subst hk0
    have HMS := Lib.hid (fun (W : World) (h : Below w.heap.size w W) => mstate_any x hv.sz A c s W (HX0.out W h).sizes (HS0.out W h))
    rw [hms] at HMS
    clear h0 hz hr hk hv hms
    go_enter Try.func3, Try.ntmps3
    go_wp2_with (go_at_call 7; (with_reducible refine HNF.out.mono ?_); rintro e wF ⟨rfl, hb⟩; have hN := Lib.hid (wm_new (HB0.out.trans (hb.mono HB0.out.size)) (HBX.out.to hb HBX.out.lt) 0 0); clear hb)
    generalize hg : wF.heap.size = g at *
    generalize hW : wF.alloc (.cells #[.int .i64 0, .int .i64 0] 28) = W1 at *
    clear hg hW
    have HSO := Lib.hid (fun (Y : World) (h : Below W1.heap.size W1 Y) => (⟨(hN.out.to h).box.c0, (hN.out.to h).box.c1, (hN.out.to h).box.c2, (hN.out.to h).box.c3, (hN.out.to h).two.fst, (hN.out.to h).two.snd, h⟩ : Y.cell? ⟨w.heap.size, 0, none⟩ = some (.slice x.az x.sizes.length x.cz) ∧ Y.cell? ⟨w.heap.size, 1, none⟩ = some (.slice x.ai x.init.length x.ci) ∧ Y.cell? ⟨w.heap.size, 2, none⟩ = some (.slice x.ag x.goal.length x.cg) ∧ Y.cell? ⟨w.heap.size, 3, none⟩ = some (.slice x.ao x.ops.length x.co) ∧ Y.cell? ⟨g, 0, none⟩ = some (.int .i64 0) ∧ Y.cell? ⟨g, 1, none⟩ = some (.int .i64 0) ∧ Below W1.heap.size W1 Y))
    have HX1 := Lib.hid (fun (Y : World) (h : Below W1.heap.size W1 Y) => HX0.out _ (hN.out.to h).below)
    have hww := Below.refl W1.heap.size W1
    go_region_held3 (fun Y => Y.cell? ⟨w.heap.size, 0, none⟩ = some (.slice x.az x.sizes.length x.cz) ∧ Y.cell? ⟨w.heap.size, 1, none⟩ = some (.slice x.ai x.init.length x.ci) ∧ Y.cell? ⟨w.heap.size, 2, none⟩ = some (.slice x.ag x.goal.length x.cg) ∧ Y.cell? ⟨w.heap.size, 3, none⟩ = some (.slice x.ao x.ops.length x.co) ∧ Y.cell? ⟨g, 0, none⟩ = some (.int .i64 0) ∧ Y.cell? ⟨g, 1, none⟩ = some (.int .i64 0) ∧ Below W1.heap.size W1 Y) (first | assumption | (refine ⟨?_, ?_, ?_, ?_, ?_, ?_, ?_⟩ <;> assumption) | (exact HSO.out _ hww.drew) | (exact HSO.out _ hww) | (exact HSO.out _ (bel_up (last7n (by assumption)) (by assumption))) | (exact HSO.out _ ((last7n (by assumption))).drew)) (first | (go_at_call 8; refine (turns_any _).mono ?_; rintro e wc ⟨rfl, hb⟩) | (go_at_call 9; refine (HNV.out _ (HX1.out _ (last7n (by assumption)))).mono ?_; rintro e wv ⟨rfl, hb⟩))
    all_goals
      have hM := Lib.hid (hN.out.to (last7n (by assumption)))
      obtain ⟨_, ⟨_, t0, t1, t2, t3⟩, _, ⟨_, k0, k1, f0, f1⟩⟩ := hM.out
      go_wp2_with (first | (go_at_call 10; (with_reducible refine (HMS.out _ hM.out.below).mono ?_); rintro e w5 ⟨rfl, hb⟩; have hM := Lib.hid (hM.out.to hb); clear hb; obtain ⟨_, ⟨_, t0, t1, t2, t3⟩, _, ⟨_, k0, k1, f0, f1⟩⟩ := hM.out) | (go_at_call 11; refine (at_any _ _ _).mono ?_; rintro e w3 ⟨rfl, hb3⟩; have hM := Lib.hid (hM.out.to hb3); clear hb3; obtain ⟨_, ⟨_, t0, t1, t2, t3⟩, _, ⟨_, k0, k1, f0, f1⟩⟩ := hM.out))
      have hM := Lib.hid (hM.out.set 5 (-4))
      clear t0 t1 t2 t3 k0 k1 f0 f1
      obtain ⟨_, ⟨_, t0, t1, t2, t3⟩, _, ⟨_, k0, k1, f0, f1⟩⟩ := hM.out
      go_loopw [8, 9] (fun v i wr => v = .slice none 0 0 ∧ i = .int .i64 0 ∧ WM w wr x g 5 (-4)) (fun _ _ _ => 0)
      case atStart => exact ⟨rfl, rfl, hM.out⟩
      case round =>
        clear t0 t1 t2 t3 k0 k1 f0 f1 hM
        obtain ⟨rfl, rfl, hm⟩ := hrel
        have hM := Lib.hid hm
        clear hm
        obtain ⟨_, ⟨_, t0, t1, t2, t3⟩, _, ⟨_, k0, k1, f0, f1⟩⟩ := hM.out
        go_wp2_with (first | (go_at_call 13; (with_reducible refine (HNA.out _ hM.out.below).mono ?_); rintro e wA ⟨vA, rfl, ho, hb⟩; have hM := Lib.hid ((hM.out.to hb).to (al_b wA (.cells #[.int .i64 5, .int .i64 (-4)] 28))); have hT := Lib.hid (two_new wA (.int .i64 5) (.int .i64 (-4)) 28); obtain ⟨aA, cA, rfl, hlA, _⟩ := own_lst (l := []) ho; have HOA := Lib.hid (hlA.to (al_b wA (.cells #[.int .i64 5, .int .i64 (-4)] 28)) (al_b wA (.cells #[.int .i64 5, .int .i64 (-4)] 28)).size); clear hb ho hlA; obtain ⟨_, ⟨_, t0, t1, t2, t3⟩, _, ⟨_, k0, k1, f0, f1⟩⟩ := hM.out; obtain ⟨_, l0, l1, _, _⟩ := hT.out) | (go_at_call 14; (with_reducible refine (show Calls _ _ #[.slice aA 0 cA, .slice none 0 0] _ _ from ints_same aA none cA 0 [] [] rfl _ HOA.out (lst_nil _ _)).mono ?_); rintro e wI ⟨rfl, hb⟩; have hM := Lib.hid (hM.out.to hb); clear hb; obtain ⟨_, ⟨_, t0, t1, t2, t3⟩, _, ⟨_, k0, k1, f0, f1⟩⟩ := hM.out) | (go_at_call 16; (with_reducible refine (HNB.out _ hM.out.below).mono ?_); rintro e wB ⟨vB, rfl, ho, hb⟩; have hM := Lib.hid ((hM.out.to hb).to (al_b wB (.cells #[.int .i64 5, .int .i64 (-4)] 28))); have hT := Lib.hid (two_new wB (.int .i64 5) (.int .i64 (-4)) 28); obtain ⟨aB, cB, rfl, hlB, _⟩ := own_lst (l := []) ho; clear hb ho hlB; obtain ⟨_, ⟨_, t0, t1, t2, t3⟩, _, ⟨_, k0, k1, f0, f1⟩⟩ := hM.out; obtain ⟨_, l0, l1, _, _⟩ := hT.out))
        all_goals
          go_ret
          exact ⟨rfl, hM.out.below⟩
end Go.Proofs.Ythlafcmabeiagaa
