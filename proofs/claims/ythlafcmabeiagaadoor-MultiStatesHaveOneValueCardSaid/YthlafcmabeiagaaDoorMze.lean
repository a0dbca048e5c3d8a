/- Apply, Solves and Cost of package multi. -/
import Derived.Test.YthlafcmabeiagaaDoorMzd
namespace Go.Proofs.YthlafcmabeiagaaDoor
open Go.RowKit
set_option linter.unusedSimpArgs false
set_option linter.unusedVariables false
set_option maxRecDepth 100000


/-- The fault and the state of Apply. -/
def apF (x : MT) (s : List Int) (op : Int) : Int × Int := if (ckM x s [op]).1 ≠ 0 then ckM x s [op] else if holdB s (mop x.ops op.toNat).pre then (0, 0) else (11, op)
def apR (x : MT) (s : List Int) (op : Int) : List Int := if (apF x s op).1 = 0 then aft s (mop x.ops op.toNat).post else []
theorem lst_new1 (w : World) (op : Int) : Lst (w.alloc (.cells #[.int .i64 op] 3)) (w.alloc (.cells #[.int .i64 op] 3)).heap.size (some ⟨w.heap.size, 0, none⟩) 1 [op] := lst_one (by simp) (by simp)
set_option maxHeartbeats 4000000 in
theorem mapply_any (x : MT) (A : Option Addr) (c : Nat) (s : List Int) (op : Int) (w : World) (hX : MTIn w w.heap.size x) (hS : Lst w w.heap.size A c s) (hA : A = none → c = 0) :
    Calls Tryd.prog 7 #[.agg #[.slice x.az x.sizes.length x.cz, .slice x.ai x.init.length x.ci, .slice x.ag x.goal.length x.cg, .slice x.ao x.ops.length x.co], .slice A s.length c, .int .i64 op] w (LsF w (apR x s op) (apF x s op)) := by
  have hF := Lib.hid (frM_new w x 26 31)
  have hF := Lib.hid (hF.out.to (al_b _ (.cells #[.int .i64 op] 3)))
  have HCK0 := Lib.hid (fun (b : Nat) (W : World) (h : Below w.heap.size w W) (hl : Lst W W.heap.size (some ⟨b, 0, none⟩) 1 [op]) => show Calls Tryd.prog 23 #[.agg #[.slice x.az x.sizes.length x.cz, .slice x.ai x.init.length x.ci, .slice x.ag x.goal.length x.cg, .slice x.ao x.ops.length x.co], .slice A s.length c, .slice (some ⟨b, 0, none⟩) 1 1] W fun e w' => e = .returned (faultV (ckM x s [op])) ∧ Below W.heap.size W w' from mcheck_any x A (some ⟨b, 0, none⟩) c 1 s [op] W (hX.to h h.size) (hS.to h h.size) hl)
  have HCK := Lib.hid (HCK0.out (w.heap.size + 1 + 1) _ hF.out.below (by have := lst_new1 ((w.alloc (.cells #[.slice x.az x.sizes.length x.cz, .slice x.ai x.init.length x.ci, .slice x.ag x.goal.length x.cg, .slice x.ao x.ops.length x.co] 26)).alloc (.cells #[.int .i64 0, .int .i64 0] 31)) op; simpa using this))
  clear HCK0
  by_cases hn : (ckM x s [op]).1 = 0
  case neg =>
    have H := Lib.hid (show apF x s op = ckM x s [op] by unfold apF; rw [if_pos hn])
    have H2 := Lib.hid (show apR x s op = [] by unfold apR; rw [H.out, if_neg hn])
    rw [H.out, H2.out]
    clear H H2 hX hS hA
    generalize ckM x s [op] = r at *
    have hne : (r.1 != 0) = true := by simpa using hn
    have hne2 : (r.1 == 0) = false := by simpa using hn
    clear hn
    go_enter Tryd.func7, Tryd.ntmps7
    go_wp2_with (go_at_call 23; (with_reducible refine HCK.out.mono ?_); rintro e w1 ⟨rfl, hb1⟩; have hF := Lib.hid ((hF.out.to hb1).to (al_b w1 (.cells #[.int .i64 r.1, .int .i64 r.2] 31))); obtain ⟨_, ⟨_, t0, t1, t2, t3⟩, ⟨_, k0, k1, f0, f1⟩⟩ := hF.out; clear hb1)
    go_region
    all_goals
      go_wp2
      refine post_with_fault (g := w.heap.size + 1) (x := .int .i64 r.1) (y := .int .i64 r.2) Tryd.results7 rfl (two1 (hF.out.two.set _ _)) ?_
      exact ⟨_, rfl, World.ownsRow_nil _ _ _ _, ((hF.out.below.setCell (by simp) _).setCell (by simp) _).drew⟩
  have hFF := show apF x s op = if (ckM x s [op]).1 ≠ 0 then ckM x s [op] else if holdB s (mop x.ops op.toNat).pre then (0, 0) else (11, op) from rfl
  have hRR := show apR x s op = if (apF x s op).1 = 0 then aft s (mop x.ops op.toNat).post else [] from rfl
  rw [if_neg (by simp [hn])] at hFF
  obtain ⟨hv, hm, hp, _, hz⟩ := ck_ok hn
  rw [hz] at HCK
  have hlen := ms_len hm
  have h1 : 1 ≤ s.length := by have := hv.sz.n1; omega
  have h8 : s.length ≤ 8 := by have := hv.sz.n8; omega
  obtain ⟨g0, g1⟩ := planB_at hp (k := 0) (by simp)
  have hop : ix [op] 0 = op := rfl
  rw [hop] at g0 g1
  obtain ⟨m, rfl⟩ := Int.eq_ofNat_of_zero_le g0
  rw [Int.toNat_natCast] at hFF hRR
  have hlt : m < x.ops.length := by omega
  obtain ⟨b, p, a1, a2, c1, c2, hao, hbl, hq0, hpre0, hpost0⟩ := hX.ops.at_ hlt
  have HQ := Lib.hid (fun (W : World) (h : Below w.heap.size w W) => hq0.to h hbl)
  have HCL := Lib.hid (fun (W : World) (h : Below w.heap.size w W) => clone_any A c s W (hS.to h h.size) hA (by omega))
  have HST := Lib.hid (fun (base g cap : Nat) (W : World) (h : Below w.heap.size w W) (hb : w.heap.size + 2 ≤ base) (hb2 : base ≤ W.heap.size) (hg : base ≤ g) (hr : Row W base g cap s) => step_any x.sizes a1 a2 c1 c2 (mop x.ops m) (hv.pre m hlt) (hv.post m hlt) s hlen base g cap W hb2 hg hr (hpre0.to h (by omega)) (hpost0.to h (by omega)))
  have HAO := Lib.hid hao
  have hmo := hv.m
  clear hn hz hX hS hA hv hm hp hlen hao hq0 hpre0 hpost0 g0 hop h8
  cases hh : holdB s (mop x.ops m).pre
  · rw [hh] at hFF
    have H := Lib.hid (show apF x s (m : Int) = (11, (m : Int)) from hFF)
    have H2 := Lib.hid (show apR x s (m : Int) = [] by rw [hRR, H.out]; rfl)
    have HSF := Lib.hid hh
    clear hFF hRR hh
    rw [H.out, H2.out]
    have HST := Lib.hid (fun base g cap W h hb hb2 hg hr => (HST.out base g cap W h hb hb2 hg hr).mono (fun e w' (q : StP W base g cap s (mop x.ops m) e w') => show e = .returned (.bool false) ∧ Row w' base g cap s ∧ Below base W w' by
      have q1 := q.1; have q2 := q.2.1; rw [HSF.out] at q1 q2; exact ⟨q1, q2, q.2.2⟩))
    go_enter Tryd.func7, Tryd.ntmps7
    go_wp2_with (first | (go_at_call 23; (with_reducible refine HCK.out.mono ?_); rintro e w1 ⟨rfl, hb1⟩; have hF := Lib.hid ((hF.out.to hb1).to (al_b w1 (.cells #[.int .i64 0, .int .i64 0] 31))); obtain ⟨_, ⟨_, t0, t1, t2, t3⟩, ⟨_, k0, k1, f0, f1⟩⟩ := hF.out; clear hb1) | (go_at_call 24; (with_reducible refine (HCL.out _ hF.out.below).mono ?_); rintro e w3 ⟨v3, rfl, ho3, hb3⟩; obtain ⟨g, cap, rfl, hg, hgl⟩ := own_some1 ho3 h1; have HG := Lib.hid hg; have hR := Lib.hid ho3; have hBS := Lib.hid (show w.heap.size + 2 ≤ (w1.alloc (.cells #[.int .i64 0, .int .i64 0] 31)).heap.size from hF.out.two.lt); have hBS3 := Lib.hid hb3.size; have hF := Lib.hid (hF.out.to hb3); obtain ⟨_, ⟨_, t0, t1, t2, t3⟩, ⟨_, k0, k1, f0, f1⟩⟩ := hF.out; rw [HAO.out] at t3; obtain ⟨q0, q1, q2⟩ := HQ.out _ hF.out.below; clear ho3 hb3 hg hgl) | (go_at_call 25; (with_reducible refine (HST.out _ _ _ _ hF.out.below hBS.out hBS3.out HG.out hR.out).mono ?_); rintro e w4 ⟨rfl, hr4, hb4⟩; have hF := Lib.hid (hF.out.toB hb4 hBS.out); have hR := Lib.hid hr4; obtain ⟨_, ⟨_, t0, t1, t2, t3⟩, ⟨_, k0, k1, f0, f1⟩⟩ := hF.out; clear hr4 hb4))
    refine post_with_fault (g := w.heap.size + 1) (x := .int .i64 11) (y := .int .i64 m) Tryd.results7 rfl (hF.out.two.set _ _) ?_
    exact ⟨_, rfl, World.ownsRow_nil _ _ _ _, (hF.out.below.setCell (by simp) _).setCell (by simp) _⟩
  · rw [hh] at hFF
    have H := Lib.hid (show apF x s (m : Int) = (0, 0) from hFF)
    have H2 := Lib.hid (show apR x s (m : Int) = aft s (mop x.ops m).post by rw [hRR, H.out]; rfl)
    have HSF := Lib.hid hh
    clear hFF hRR hh
    rw [H.out, H2.out]
    have HST := Lib.hid (fun base g cap W h hb hb2 hg hr => (HST.out base g cap W h hb hb2 hg hr).mono (fun e w' (q : StP W base g cap s (mop x.ops m) e w') => show e = .returned (.bool true) ∧ Row w' base g cap (aft s (mop x.ops m).post) ∧ Below base W w' by
      have q1 := q.1; have q2 := q.2.1; rw [HSF.out] at q1 q2; exact ⟨q1, q2, q.2.2⟩))
    go_enter Tryd.func7, Tryd.ntmps7
    go_wp2_with (first | (go_at_call 23; (with_reducible refine HCK.out.mono ?_); rintro e w1 ⟨rfl, hb1⟩; have hF := Lib.hid ((hF.out.to hb1).to (al_b w1 (.cells #[.int .i64 0, .int .i64 0] 31))); obtain ⟨_, ⟨_, t0, t1, t2, t3⟩, ⟨_, k0, k1, f0, f1⟩⟩ := hF.out; clear hb1) | (go_at_call 24; (with_reducible refine (HCL.out _ hF.out.below).mono ?_); rintro e w3 ⟨v3, rfl, ho3, hb3⟩; obtain ⟨g, cap, rfl, hg, hgl⟩ := own_some1 ho3 h1; have HG := Lib.hid hg; have hR := Lib.hid ho3; have hBS := Lib.hid (show w.heap.size + 2 ≤ (w1.alloc (.cells #[.int .i64 0, .int .i64 0] 31)).heap.size from hF.out.two.lt); have hBS3 := Lib.hid hb3.size; have hF := Lib.hid (hF.out.to hb3); obtain ⟨_, ⟨_, t0, t1, t2, t3⟩, ⟨_, k0, k1, f0, f1⟩⟩ := hF.out; rw [HAO.out] at t3; obtain ⟨q0, q1, q2⟩ := HQ.out _ hF.out.below; clear ho3 hb3 hg hgl) | (go_at_call 25; (with_reducible refine (HST.out _ _ _ _ hF.out.below hBS.out hBS3.out HG.out hR.out).mono ?_); rintro e w4 ⟨rfl, hr4, hb4⟩; have hF := Lib.hid (hF.out.toB hb4 hBS.out); have hR := Lib.hid hr4; obtain ⟨_, ⟨_, t0, t1, t2, t3⟩, ⟨_, k0, k1, f0, f1⟩⟩ := hF.out; clear hr4 hb4))
    refine post_with_fault (g := w.heap.size + 1) (x := .int .i64 0) (y := .int .i64 0) Tryd.results7 rfl (hF.out.two.set _ _) ?_
    have hr9 := hR.out
    unfold Row at hr9
    rw [aft_len] at hr9
    have hbs := hBS.out
    refine ⟨_, rfl, ?_, (hF.out.below.setCell (by simp) _).setCell (by simp) _⟩
    rw [aft_len]
    exact own_mono (own_far2 (own_far2 hr9 (p := ⟨w.heap.size + 1, 0, none⟩) (by show w.heap.size + 1 < _; omega) (.int .i64 0)) (p := ⟨w.heap.size + 1, 1, none⟩) (by show w.heap.size + 1 < _; omega) (.int .i64 0)) (by omega)
end Go.Proofs.YthlafcmabeiagaaDoor
