/- The law StripsPlansConcatenate: the walk. -/
import Derived.Test.YtdgolaegbdadlaaDoorKiq
import Derived.Deep.CutRange
namespace Go.Proofs.YtdgolaegbdadlaaDoor
open Go.RowKit
set_option linter.unusedSimpArgs false
set_option linter.unusedVariables false
set_option maxRecDepth 100000

theorem coM_bd (x : Tsk) (plan : List Int) : 0 ≤ coM x plan ∧ coM x plan ≤ 6000 := by
  unfold coM
  split
  · rename_i h
    obtain ⟨hv, h60, hp⟩ := plF_val h
    have := costTo_bd hv hp plan.length (Nat.le_refl _)
    omega
  · omega
theorem Fresh2.r2 {W W2 : World} {base : Nat} {a : Option Addr} {c : Nat} {ls : List (List Int)} (h : Fresh2 W base (.slice a ls.length c) ls) (hw : ∀ b, base ≤ b → b < W.heap.size → W2.heap[b]? = W.heap[b]?) (hs : W.heap.size ≤ W2.heap.size) : R2 W2 a c ls := by
  obtain ⟨a', c', e, h1⟩ := (h W2 hw hs).set
  injection e with e1 e2 e3
  subst e1 e3
  exact h1
theorem Fresh2.alloc {W : World} {base : Nat} {a : Option Addr} {c : Nat} {ls : List (List Int)} (h : Fresh2 W base (.slice a ls.length c) ls) (o : Obj) : R2 (W.alloc o) a c ls :=
  h.r2 (fun b _ hb => ((Below.refl W.heap.size W).alloc (Nat.le_refl _) o).block b hb) (by simp)
theorem Fresh2.set2 {W : World} {base : Nat} {a : Option Addr} {c : Nat} {ls : List (List Int)} (h : Fresh2 W base (.slice a ls.length c) ls) {g : Nat} (hg : g < base) (u v : Value) : R2 ((W.setCell ⟨g, 0, none⟩ u).setCell ⟨g, 1, none⟩ v) a c ls :=
  h.r2 (fun b hb _ => by rw [Below.heap_setCell _ _ _ _ (by show b ≠ g; omega), Below.heap_setCell _ _ _ _ (by show b ≠ g; omega)]) (by simp)
theorem have_two {G : Prop} {V wY : World} {g : Nat} {u v : Value} (hb : Below V.heap.size V wY) (h : Two V g u v) (k : Two wY g u v → G) : G := k (two_to h hb)
theorem last6 {P1 P2 P3 P4 P5 Q : Prop} (h : P1 ∧ P2 ∧ P3 ∧ P4 ∧ P5 ∧ Q) : Q := h.2.2.2.2.2
set_option maxHeartbeats 8000000 in
theorem concatenate_any (x : Tsk) (a2 a3 a4 : Option Addr) (c2 c3 c4 : Nat) (s p q : List Int) (w : World) (hX : TskIn w w.heap.size x) (hS : Lst w w.heap.size a2 c2 s) (hA : Lst w w.heap.size a3 c3 p) (hB : Lst w w.heap.size a4 c4 q) (h3 : a3 = none → c3 = 0) (h4 : a4 = none → c4 = 0) (hT : TabIn w) :
    Calls Tryd.prog 7 #[.agg #[.int .i64 x.n, .slice x.ai x.init.length x.ci, .slice x.ag x.goal.length x.cg, .slice x.ao x.ops.length x.co], .slice a2 s.length c2, .slice a3 p.length c3, .slice a4 q.length c4] w fun e w' => e = .returned (.bool true) ∧ Below w.heap.size w w' := by
  have hP := Lib.hid (Alive.cons (boxS w.heap.size x) (tbox_new w x 25) ((Alive.cons (tskS x) hX (Alive.cons (lstS a2 c2 s) hS (Alive.cons (lstS a3 c3 p) hA (Alive.cons (lstS a4 c4 q) hB (Alive.cons tabS hT (Alive.cons (belS w) (Below.refl _ w) (Alive.nil w))))))).to ((Below.refl _ _).alloc (Nat.le_refl _) (.cells #[.int .i64 x.n, .slice x.ai x.init.length x.ci, .slice x.ag x.goal.length x.cg, .slice x.ao x.ops.length x.co] 25))))
  have HA3 := Lib.hid h3
  have HA4 := Lib.hid h4
  clear hX hS hA hB hT h3 h4
  by_cases h1 : p.length ≤ 60
  case neg =>
    have h1 : (60 : Int) < p.length := by omega
    go_enter Tryd.func7, Tryd.ntmps7
    go_wp2_with ((go_at_call 10; have hTb := Lib.hid (show TabIn _ from hP.out tabS (by simp)); (with_reducible refine (acts_any _ hTb.out).mono ?_); rintro e w1 ⟨rfl, hb⟩; have hP := Lib.hid (hP.out.to hb); clear hb; obtain ⟨_, t0, t1, t2, t3⟩ := (show TBox _ _ x from hP.out (boxS w.heap.size x) (by simp))))
    go_ret; exact ⟨rfl, hP.out (belS w) (by simp)⟩
  by_cases h2 : q.length ≤ 60
  case neg =>
    have h1 : ¬ (60 : Int) < p.length := by omega
    have h2 : (60 : Int) < q.length := by omega
    go_enter Tryd.func7, Tryd.ntmps7
    go_wp2_with ((go_at_call 10; have hTb := Lib.hid (show TabIn _ from hP.out tabS (by simp)); (with_reducible refine (acts_any _ hTb.out).mono ?_); rintro e w1 ⟨rfl, hb⟩; have hP := Lib.hid (hP.out.to hb); clear hb; obtain ⟨_, t0, t1, t2, t3⟩ := (show TBox _ _ x from hP.out (boxS w.heap.size x) (by simp))))
    go_ret; exact ⟨rfl, hP.out (belS w) (by simp)⟩
  have HL1 := Lib.hid h1
  have HL2 := Lib.hid h2
  have HP200 := Lib.hid (show p.length ≤ 200 by omega)
  have h1 : ¬ (60 : Int) < p.length := by omega
  have h2 : ¬ (60 : Int) < q.length := by omega
  go_enter Tryd.func7, Tryd.ntmps7
  go_wp2_with (first | (go_at_call 10; have hTb := Lib.hid (show TabIn _ from hP.out tabS (by simp)); (with_reducible refine (acts_any _ hTb.out).mono ?_); rintro e w1 ⟨rfl, hb⟩; have hP := Lib.hid (hP.out.to hb); clear hb; obtain ⟨_, t0, t1, t2, t3⟩ := (show TBox _ _ x from hP.out (boxS w.heap.size x) (by simp))) | (go_at_call 32; have hLp := Lib.hid (show Lst _ _ a3 c3 p from hP.out (lstS a3 c3 p) (by simp)); (with_reducible refine (copy_any a3 c3 p _ hLp.out HA3.out HP200.out).mono ?_); rintro e w2 ⟨vc, rfl, hown, hb⟩; have hP1 := hP; have hP := Lib.hid (hP.out.to hb); have HO := Lib.hid hown; have HBS := Lib.hid hb.size; have HB1 := Lib.hid hb; clear hb hown; obtain ⟨_, t0, t1, t2, t3⟩ := (show TBox _ _ x from hP.out (boxS w.heap.size x) (by simp))) | (at_builtin; refine wpList_append_lst _ rfl _ _ rfl w1.heap.size vc p rfl HO.out a4 c4 q rfl (show Lst _ _ a4 c4 q from hP.out (lstS a4 c4 q) (by simp)) HA4.out (by have := HL1.out; have := HL2.out; omega) HBS.out ?_))
  intro vw w3 hown hg
  have hb3 : Below w1.heap.size w1 w3 := HB1.out.grown hg HBS.out (fun r hr => by
    rcases HO.out.2 with ⟨rfl, _⟩ | ⟨g, cap, cur, rfl, hgb, _⟩
    · simp [Value.ownBlock] at hr
    · simp [Value.ownBlock] at hr; omega)
  have hP := Lib.hid (hP1.out.to hb3)
  clear hP1 HB1 HO HBS hg
  obtain ⟨pq, hpq⟩ : ∃ pq, p ++ q = pq := ⟨_, rfl⟩
  have hown : w3.ownsRow w1.heap.size 3 1 vw pq.length (pq.map (Value.int .i64)) := by
    subst hpq
    simpa using hown
  obtain ⟨aw, cw, rfl, hlw⟩ := (sliceOf_own hown).set
  have hP := Lib.hid (Alive.cons (lstS aw cw pq) hlw hP.out)
  have HPQ := Lib.hid hpq
  clear hown hlw hb3 hpq
  obtain ⟨_, t0, t1, t2, t3⟩ := (show TBox _ _ x from hP.out (boxS w.heap.size x) (by simp))
  by_cases hp : (plyF x s p).1 = 0
  case neg =>
    have hne : ((plyF x s p).1 != 0) = true := by simpa using hp
    have hlen : (plyL x s p).length = 0 := by rw [plyL_bad hp]; rfl
    have hnw : ((plyF x s pq).1 != 0) = true := by
      have : ¬ (plyF x s pq).1 = 0 := fun h => hp (conc_first (b := q) (by rw [HPQ.out]; exact h))
      simpa using this
    clear hp
    go_wp2_with (first | (go_at_call 30; have hTk := Lib.hid (show TskIn _ _ x from hP.out (tskS x) (by simp)); have hLs := Lib.hid (show Lst _ _ a2 c2 s from hP.out (lstS a2 c2 s) (by simp)); have hLp := Lib.hid (show Lst _ _ a3 c3 p from hP.out (lstS a3 c3 p) (by simp)); have hTb := Lib.hid (show TabIn _ from hP.out tabS (by simp)); (with_reducible refine (play_any x a2 a3 c2 c3 s p _ hTk.out hLs.out hLp.out hTb.out).mono ?_); rintro e wX ⟨vX, rfl, hs, hb⟩; obtain ⟨ax, cx, rfl, hr⟩ := hs.set; have hP := Lib.hid (Alive.cons (twoS wX.heap.size (.int .i64 (plyF x s p).1) (.int .i64 (plyF x s p).2)) (two_new wX _ _ 27) ((Alive.cons (r2S ax cx (plyL x s p)) hr (hP.out.to hb)).to ((Below.refl _ _).alloc (Nat.le_refl _) _))); clear hr hs hb; obtain ⟨_, t0, t1, t2, t3⟩ := (show TBox _ _ x from hP.out (boxS w.heap.size x) (by simp))) | (go_at_call 30; have hTk := Lib.hid (show TskIn _ _ x from hP.out (tskS x) (by simp)); have hLs := Lib.hid (show Lst _ _ a2 c2 s from hP.out (lstS a2 c2 s) (by simp)); have hLw := Lib.hid (show Lst _ _ aw cw pq from hP.out (lstS aw cw pq) (by simp)); have hTb := Lib.hid (show TabIn _ from hP.out tabS (by simp)); (with_reducible refine (play_any x a2 aw c2 cw s pq _ hTk.out hLs.out hLw.out hTb.out).mono ?_); rintro e wZ ⟨vZ, rfl, hs, hb⟩; obtain ⟨az, cz, rfl, hr⟩ := hs.set; have hP := Lib.hid (Alive.cons (twoS wZ.heap.size (.int .i64 (plyF x s pq).1) (.int .i64 (plyF x s pq).2)) (two_new wZ _ _ 27) ((Alive.cons (r2S az cz (plyL x s pq)) hr (hP.out.to hb)).to ((Below.refl _ _).alloc (Nat.le_refl _) _))); clear hr hs hb; obtain ⟨_, t0, t1, t2, t3⟩ := (show TBox _ _ x from hP.out (boxS w.heap.size x) (by simp)); obtain ⟨_, k0, k1, f0, f1⟩ := (show Two _ wX.heap.size _ _ from hP.out (twoS wX.heap.size (.int .i64 (plyF x s p).1) (.int .i64 (plyF x s p).2)) (by simp)); obtain ⟨_, l0, l1, g0, g1⟩ := (show Two _ wZ.heap.size _ _ from hP.out (twoS wZ.heap.size (.int .i64 (plyF x s pq).1) (.int .i64 (plyF x s pq).2)) (by simp))))
    go_ret; exact ⟨rfl, hP.out (belS w) (by simp)⟩
  have hne : ((plyF x s p).1 != 0) = false := by simpa using hp
  have hlen := plyL_len hp
  have hne0 : (((plyL x s p).length : Int) == 0) = false := by
    rw [hlen, beq_eq_false_iff_ne]
    omega
  have HLX := Lib.hid hlen
  have HPF := Lib.hid hp
  clear hlen hp
  go_wp2_with (first | (go_at_call 30; have hTk := Lib.hid (show TskIn _ _ x from hP.out (tskS x) (by simp)); have hLs := Lib.hid (show Lst _ _ a2 c2 s from hP.out (lstS a2 c2 s) (by simp)); have hLp := Lib.hid (show Lst _ _ a3 c3 p from hP.out (lstS a3 c3 p) (by simp)); have hTb := Lib.hid (show TabIn _ from hP.out tabS (by simp)); (with_reducible refine (play_any x a2 a3 c2 c3 s p _ hTk.out hLs.out hLp.out hTb.out).mono ?_); rintro e wX ⟨vX, rfl, hs, hb⟩; obtain ⟨ax, cx, rfl, hr⟩ := hs.set; have hP := Lib.hid (Alive.cons (twoS wX.heap.size (.int .i64 (plyF x s p).1) (.int .i64 (plyF x s p).2)) (two_new wX _ _ 27) ((Alive.cons (r2S ax cx (plyL x s p)) hr (hP.out.to hb)).to ((Below.refl _ _).alloc (Nat.le_refl _) _))); clear hr hs hb; obtain ⟨_, t0, t1, t2, t3⟩ := (show TBox _ _ x from hP.out (boxS w.heap.size x) (by simp))) | (go_at_call 30; have hTk := Lib.hid (show TskIn _ _ x from hP.out (tskS x) (by simp)); have hLs := Lib.hid (show Lst _ _ a2 c2 s from hP.out (lstS a2 c2 s) (by simp)); have hLw := Lib.hid (show Lst _ _ aw cw pq from hP.out (lstS aw cw pq) (by simp)); have hTb := Lib.hid (show TabIn _ from hP.out tabS (by simp)); (with_reducible refine (play_any x a2 aw c2 cw s pq _ hTk.out hLs.out hLw.out hTb.out).mono ?_); rintro e wZ ⟨vZ, rfl, hs, hb⟩; obtain ⟨az, cz, rfl, hr⟩ := hs.set; have hP := Lib.hid (Alive.cons (twoS wZ.heap.size (.int .i64 (plyF x s pq).1) (.int .i64 (plyF x s pq).2)) (two_new wZ _ _ 27) ((Alive.cons (r2S az cz (plyL x s pq)) hr (hP.out.to hb)).to ((Below.refl _ _).alloc (Nat.le_refl _) _))); clear hr hs hb; obtain ⟨_, t0, t1, t2, t3⟩ := (show TBox _ _ x from hP.out (boxS w.heap.size x) (by simp)); obtain ⟨_, k0, k1, f0, f1⟩ := (show Two _ wX.heap.size _ _ from hP.out (twoS wX.heap.size (.int .i64 (plyF x s p).1) (.int .i64 (plyF x s p).2)) (by simp)); obtain ⟨_, l0, l1, g0, g1⟩ := (show Two _ wZ.heap.size _ _ from hP.out (twoS wZ.heap.size (.int .i64 (plyF x s pq).1) (.int .i64 (plyF x s pq).2)) (by simp))))
  generalize hU : wZ.alloc (.cells #[.int .i64 (plyF x s pq).1, .int .i64 (plyF x s pq).2] 27) = U at hP t0 t1 t2 t3 k0 k1 f0 f1 l0 l1 g0 g1 ⊢; clear hU; have hX2 := (show R2 _ ax cx (plyL x s p) from hP.out (r2S ax cx (plyL x s p)) (by simp)); have hXl := hX2.le; have hXm := hX2.max; unfold maxLen at hXm; rw [HLX.out] at hXl; obtain ⟨bx, ox, ak, ck, rfl, hbx, q0, lx⟩ := hX2.rws.at_ (k := p.length) (by rw [HLX.out]; omega); have HBX := Lib.hid hbx; have HLK := Lib.hid (fun (V : World) (h : Below U.heap.size U V) => lx.to h h.size); clear hbx lx hX2; have HAL := Lib.hid (fun (V : World) (h : Below U.heap.size U V) => hP.out.to h); rw [HLX.out]; have hUU := Below.refl U.heap.size U; have e0 : IntKind.i64.wrap (p.length : Int) = p.length := IntWalk.i64_in _ (by omega); have e1 : IntKind.i64.wrap ((p.length : Int) + 1) = p.length + 1 := IntWalk.i64_in _ (by omega); have e2 : IntKind.i64.wrap ((p.length : Int) + 1 - 1) = p.length := ((congrArg _ (by omega)).trans e0); have e3 : (0 : Int) ≤ p.length := (by omega); have e4 : (p.length : Int) < p.length + 1 := (by omega); have e5 : ((p.length : Int) + 1 - 1) = p.length := (by omega); have HSO := Lib.hid (fun (V : World) (h : Below U.heap.size U V) => (⟨(show TBox V w.heap.size x from HAL.out V h (boxS w.heap.size x) (by simp)).c0, (show TBox V w.heap.size x from HAL.out V h (boxS w.heap.size x) (by simp)).c1, (show TBox V w.heap.size x from HAL.out V h (boxS w.heap.size x) (by simp)).c2, (show TBox V w.heap.size x from HAL.out V h (boxS w.heap.size x) (by simp)).c3, (h.cell (p := ⟨bx, ox + p.length, none⟩) HBX.out).trans q0, h⟩ : V.cell? ⟨w.heap.size, 0, none⟩ = some (.int .i64 x.n) ∧ V.cell? ⟨w.heap.size, 1, none⟩ = some (.slice x.ai x.init.length x.ci) ∧ V.cell? ⟨w.heap.size, 2, none⟩ = some (.slice x.ag x.goal.length x.cg) ∧ V.cell? ⟨w.heap.size, 3, none⟩ = some (.slice x.ao x.ops.length x.co) ∧ V.cell? ⟨bx, ox + p.length, none⟩ = some (.slice ak (rw_ (plyL x s p) p.length).length ck) ∧ Below U.heap.size U V)); clear k0 k1 f0 f1 l0 l1 g0 g1
  go_cut [14, 15] from 71 to 82 (fun y g wx => ∃ gb ay cy, y = .slice ay (plyL x (rw_ (plyL x s p) p.length) q).length cy ∧ g = .pointer (some ⟨gb, 0, none⟩) ∧ Below U.heap.size U wx ∧ Two wx gb (.int .i64 (plyF x (rw_ (plyL x s p) p.length) q).1) (.int .i64 (plyF x (rw_ (plyL x s p) p.length) q).2) ∧ R2 wx ay cy (plyL x (rw_ (plyL x s p) p.length) q))
  case first =>
    have hbx := HBX.out
    have hwU : w.heap.size < U.heap.size := (show TBox U w.heap.size x from HAL.out U hUU (boxS w.heap.size x) (by simp)).lt
    go_region_with (first | (go_at_call 30; (with_reducible refine (play_any x ak a4 ck c4 (rw_ (plyL x s p) p.length) q _ ?_ ?_ ?_ ?_).mono ?_); (exact (show TskIn _ _ x from HAL.out _ (by (repeat' (first | (with_reducible assumption) | (with_reducible exact Below.refl _ _) | (with_reducible refine belowN ?_ _) | (with_reducible refine Below.alloc ?_ ?_ _) | (with_reducible refine Below.drew ?_) | (with_reducible refine Below.setCell ?_ ?_ _) | go_size))) (tskS x) (by simp))); (exact (HLK.out _ (by (repeat' (first | (with_reducible assumption) | (with_reducible exact Below.refl _ _) | (with_reducible refine belowN ?_ _) | (with_reducible refine Below.alloc ?_ ?_ _) | (with_reducible refine Below.drew ?_) | (with_reducible refine Below.setCell ?_ ?_ _) | go_size))))); (exact (show Lst _ _ a4 c4 q from HAL.out _ (by (repeat' (first | (with_reducible assumption) | (with_reducible exact Below.refl _ _) | (with_reducible refine belowN ?_ _) | (with_reducible refine Below.alloc ?_ ?_ _) | (with_reducible refine Below.drew ?_) | (with_reducible refine Below.setCell ?_ ?_ _) | go_size))) (lstS a4 c4 q) (by simp))); (exact (show TabIn _ from HAL.out _ (by (repeat' (first | (with_reducible assumption) | (with_reducible exact Below.refl _ _) | (with_reducible refine belowN ?_ _) | (with_reducible refine Below.alloc ?_ ?_ _) | (with_reducible refine Below.drew ?_) | (with_reducible refine Below.setCell ?_ ?_ _) | go_size))) tabS (by simp))); rintro e wY ⟨vY, rfl, hs, hb⟩; obtain ⟨ay, cy, rfl, _⟩ := hs.set; have hbU : Below U.heap.size U wY := bel_step (by (repeat' (first | (with_reducible assumption) | (with_reducible exact Below.refl _ _) | (with_reducible refine belowN ?_ _) | (with_reducible refine Below.alloc ?_ ?_ _) | (with_reducible refine Below.drew ?_) | (with_reducible refine Below.setCell ?_ ?_ _) | go_size))) hb; (first | (refine have_two (g := U.heap.size) (u := .int .i64 0) (v := .int .i64 0) hb ?_ (fun hz => ?_); (first | (exact two_new _ _ _ _) | (exact two1 (two_new _ _ _ _)) | (exact two1 (two1 (two_new _ _ _ _)))); have HZ := Lib.hid hz; obtain ⟨_, z0, z1, z2, z3⟩ := hz) | skip); have HFS := Lib.hid hs; have HBY := Lib.hid hbU; clear hs hb hbU))
    all_goals
      go_wp2_with fail
      go_meet
      first
        | exact ⟨wY.heap.size, ay, cy, rfl, rfl, HBY.out.alloc HBY.out.size _, two_new _ _ _ _, HFS.out.alloc _⟩
        | exact ⟨U.heap.size, ay, cy, rfl, rfl, (HBY.out.setCell (Nat.le_refl _) _).setCell (Nat.le_refl _) _, HZ.out.set _ _, HFS.out.set2 (by simp) _ _⟩
  case rest =>
    rw [show rw_ (plyL x s p) p.length = endL x s p from rfl] at hcut
    obtain ⟨gb, ay, cy, rfl, rfl, hbU, htw, hr2⟩ := hcut
    have hP := Lib.hid (Alive.cons (twoS gb (.int .i64 (plyF x (endL x s p) q).1) (.int .i64 (plyF x (endL x s p) q).2)) htw (Alive.cons (r2S ay cy (plyL x (endL x s p) q)) hr2 (HAL.out _ hbU)))
    clear hbU htw hr2 HAL HSO HLK hUU q0 t0 t1 t2 t3
    obtain ⟨_, t0, t1, t2, t3⟩ := (show TBox _ _ x from hP.out (boxS w.heap.size x) (by simp))
    obtain ⟨_, l0, l1, g0, g1⟩ := (show Two _ wZ.heap.size _ _ from hP.out (twoS wZ.heap.size (.int .i64 (plyF x s pq).1) (.int .i64 (plyF x s pq).2)) (by simp))
    obtain ⟨_, y0, y1, e0', e1'⟩ := (show Two _ gb _ _ from hP.out (twoS gb (.int .i64 (plyF x (endL x s p) q).1) (.int .i64 (plyF x (endL x s p) q).2)) (by simp))
    by_cases hw : (plyF x s pq).1 = 0
    case neg =>
      have hnw : ((plyF x s pq).1 != 0) = true := by simpa using hw
      by_cases hy : (plyF x (endL x s p) q).1 = 0
      case neg =>
        have hny : ((plyF x (endL x s p) q).1 != 0) = true := by simpa using hy
        clear hw hy
        go_wp2
        go_ret; exact ⟨rfl, hP.out (belS w) (by simp)⟩
      case pos =>
        have hny : ((plyF x (endL x s p) q).1 != 0) = false := by simpa using hy
        have h60 : (60 : Int) < pq.length := by
          by_cases e : p.length + q.length ≤ 60
          · exact absurd (by rw [← HPQ.out]; exact conc_whole HPF.out hy e) hw
          · have := congrArg List.length HPQ.out
            rw [List.length_append] at this
            omega
        clear hw hy
        go_wp2
        go_ret; exact ⟨rfl, hP.out (belS w) (by simp)⟩
    case pos =>
      have hcc := conc_ok (x := x) (s := s) (a := p) (b := q) (by rw [HPQ.out]; exact hw)
      rw [HPQ.out] at hcc
      obtain ⟨g1', g2', g3', g4', g5', g6'⟩ := hcc
      have hnw : ((plyF x s pq).1 != 0) = false := by simpa using hw
      have hny : ((plyF x (endL x s p) q).1 != 0) = false := by rw [g1']; rfl
      have hn1 : ((plF x p).1 != 0) = false := by rw [g3']; rfl
      have hn2 : ((plF x q).1 != 0) = false := by rw [g4']; rfl
      have hn3 : ((plF x pq).1 != 0) = false := by rw [g5']; rfl
      have hlz := plyL_len hw
      have hly := plyL_len (x := x) (s := endL x s p) (plan := q) (by rw [g1'])
      have hz0 : (((plyL x s pq).length : Int) == 0) = false := by rw [hlz, beq_eq_false_iff_ne]; omega
      have hy0 : (((plyL x (endL x s p) q).length : Int) == 0) = false := by rw [hly, beq_eq_false_iff_ne]; omega
      have HE := Lib.hid (show endL x s pq = endL x (endL x s p) q from g2')
      have HLZ := Lib.hid hlz
      have HLY := Lib.hid hly
      have HCO := Lib.hid g6'
      have hb1 := coM_bd x p
      have hb2 := coM_bd x q
      have hwr : IntKind.i64.wrap (coM x p + coM x q) = coM x p + coM x q := IntWalk.i64_in _ (by omega)
      clear hw g1' g2' g3' g4' g5' g6' hlz hly hb1 hb2
      go_wp2_with (first | (go_at_call 25; have hTk := Lib.hid (show TskIn _ _ x from hP.out (tskS x) (by simp)); have hLp := Lib.hid (show Lst _ _ a3 c3 p from hP.out (lstS a3 c3 p) (by simp)); (with_reducible refine (cost_any x a3 c3 p _ hTk.out hLp.out).mono ?_); rintro e wCP ⟨rfl, hb⟩; have hP := Lib.hid (Alive.cons (twoS wCP.heap.size (.int .i64 (plF x p).1) (.int .i64 (plF x p).2)) (two_new wCP _ _ 27) ((hP.out.to hb).to ((Below.refl _ _).alloc (Nat.le_refl _) _))); clear hb; obtain ⟨_, t0, t1, t2, t3⟩ := (show TBox _ _ x from hP.out (boxS w.heap.size x) (by simp))) | (go_at_call 25; have hTk := Lib.hid (show TskIn _ _ x from hP.out (tskS x) (by simp)); have hLq := Lib.hid (show Lst _ _ a4 c4 q from hP.out (lstS a4 c4 q) (by simp)); (with_reducible refine (cost_any x a4 c4 q _ hTk.out hLq.out).mono ?_); rintro e wCQ ⟨rfl, hb⟩; have hP := Lib.hid (Alive.cons (twoS wCQ.heap.size (.int .i64 (plF x q).1) (.int .i64 (plF x q).2)) (two_new wCQ _ _ 27) ((hP.out.to hb).to ((Below.refl _ _).alloc (Nat.le_refl _) _))); clear hb; obtain ⟨_, t0, t1, t2, t3⟩ := (show TBox _ _ x from hP.out (boxS w.heap.size x) (by simp))) | (go_at_call 25; have hTk := Lib.hid (show TskIn _ _ x from hP.out (tskS x) (by simp)); have hLw := Lib.hid (show Lst _ _ aw cw pq from hP.out (lstS aw cw pq) (by simp)); (with_reducible refine (cost_any x aw cw pq _ hTk.out hLw.out).mono ?_); rintro e wCW ⟨rfl, hb⟩; have hP := Lib.hid (Alive.cons (twoS wCW.heap.size (.int .i64 (plF x pq).1) (.int .i64 (plF x pq).2)) (two_new wCW _ _ 27) ((hP.out.to hb).to ((Below.refl _ _).alloc (Nat.le_refl _) _))); clear hb; obtain ⟨_, t0, t1, t2, t3⟩ := (show TBox _ _ x from hP.out (boxS w.heap.size x) (by simp)); obtain ⟨_, j0, j1, _, _⟩ := (show Two _ gb _ _ from hP.out (twoS gb (.int .i64 (plyF x (endL x s p) q).1) (.int .i64 (plyF x (endL x s p) q).2)) (by simp)); obtain ⟨_, j2, j3, _, _⟩ := (show Two _ wCP.heap.size _ _ from hP.out (twoS wCP.heap.size (.int .i64 (plF x p).1) (.int .i64 (plF x p).2)) (by simp)); obtain ⟨_, j4, j5, _, _⟩ := (show Two _ wCQ.heap.size _ _ from hP.out (twoS wCQ.heap.size (.int .i64 (plF x q).1) (.int .i64 (plF x q).2)) (by simp)); obtain ⟨_, j6, j7, _, _⟩ := (show Two _ wCW.heap.size _ _ from hP.out (twoS wCW.heap.size (.int .i64 (plF x pq).1) (.int .i64 (plF x pq).2)) (by simp))))
      have hZ2 := (show R2 _ az cz (plyL x s pq) from hP.out (r2S az cz (plyL x s pq)) (by simp))
      have hY2 := (show R2 _ ay cy (plyL x (endL x s p) q) from hP.out (r2S ay cy (plyL x (endL x s p) q)) (by simp))
      have hzm : pq.length < 9223372036854775807 := by
        have r1 := hZ2.le
        have r2 := hZ2.max
        unfold maxLen at r2
        rw [HLZ.out] at r1
        omega
      obtain ⟨bz, oz, akz, ckz, rfl, _, qz, lz⟩ := hZ2.rws.at_ (k := pq.length) (by rw [HLZ.out]; omega)
      obtain ⟨by_, oy, aky, cky, rfl, _, qy, ly⟩ := hY2.rws.at_ (k := q.length) (by rw [HLY.out]; omega)
      have hBe := Lib.hid (show Below w.heap.size w _ from hP.out (belS w) (by simp))
      have HIq := Lib.hid (fun n => quiet_ints (c := ckz) (c' := cky) n lz.nums ly.nums lz.len ly.len)
      rw [show eqL (rw_ (plyL x s pq) pq.length) (rw_ (plyL x (endL x s p) q) q.length) = true from (by
        have := HE.out
        unfold endL at this ⊢
        rw [this]
        exact eqL_self _)] at HIq
      clear hP hZ2 hY2 lz ly
      rw [HLZ.out, HLY.out, HCO.out]
      go_quiet ((go_at_call 15; exact HIq.out _))
      go_wp2
      go_ret
      exact ⟨rfl, belowN hBe.out _⟩
end Go.Proofs.YtdgolaegbdadlaaDoor
