/- The law InvariantHolds. -/
import Derived.Test.YtenmegkokclolaaDoorVpu
namespace Go.Proofs.YtenmegkokclolaaDoor
open Go.RowKit
set_option linter.unusedSimpArgs false
set_option linter.unusedVariables false
set_option maxRecDepth 100000

theorem ply_zero {x : Tsk} {s plan : List Int} (h : (plyF x s plan).1 = 0) : plyF x s plan = (0, 0) ∧ (ckF x s plan).1 = 0 ∧ plyL x s plan = (seqL x x.n.toNat s plan).map (·.2) ∧ (plyL x s plan).length = plan.length + 1 := by
  have hL : plyL x s plan = (seqL x x.n.toNat s plan).map (·.2) := by unfold plyL; rw [if_pos h]
  have hck : (ckF x s plan).1 = 0 := by
    unfold plyF at h
    by_cases hc : (ckF x s plan).1 = 0
    · exact hc
    · rw [if_pos hc] at h; exact absurd h hc
  have h2 := h
  unfold plyF at h2
  rw [if_neg (by simpa using hck)] at h2
  cases hr : runTo x x.n.toNat s plan plan.length with
  | none => rw [hr] at h2; simp at h2
  | some t =>
    refine ⟨?_, hck, hL, ?_⟩
    · unfold plyF
      rw [if_neg (by simpa using hck), hr]; rfl
    · rw [hL, List.length_map]
      exact seqN_full plan.length 0 (by rw [Nat.zero_add]; exact hr)
theorem ply_states {x : Tsk} {g plan : List Int} (hv : Val x x.n.toNat) (hg : IsS g 24) (hi : indB x g = true) (h : (plyF x x.init plan).1 = 0) : ∀ k, k < (plyL x x.init plan).length → cntB g (rw_ (plyL x x.init plan) k) ≤ 1 := by
  obtain ⟨_, hck, hL, hlen⟩ := ply_zero h
  intro k hk
  rw [cnt_am hg]
  have hm := rw_mem hk
  rw [hL] at hm
  obtain ⟨y, hy, e⟩ := List.mem_map.1 hm
  obtain ⟨hr, hlt⟩ := seqN_run hy
  rw [← hL] at e
  rw [← e]
  exact run_am hv hg hi (ck_val hck).2.2.2 y.1 y.2 (by omega) hr

set_option maxHeartbeats 4000000 in
theorem holds_law (HSC : SortC) (x : Tsk) (A B : Option Addr) (c d : Nat) (g plan : List Int) (w : World) (hX : TskIn w w.heap.size x) (hG : Lst w w.heap.size A c g) (hPl : Lst w w.heap.size B d plan) (hT : TabIn w) :
    Calls Tryd.prog 4 #[.agg #[.int .i64 x.n, .slice x.ai x.init.length x.ci, .slice x.ag x.goal.length x.cg, .slice x.ao x.ops.length x.co], .slice A g.length c, .slice B plan.length d] w fun e w' => e = .returned (.bool true) ∧ Below w.heap.size w w' := by
  have hbW : Below w.heap.size w (w.alloc (.cells #[.int .i64 x.n, .slice x.ai x.init.length x.ci, .slice x.ag x.goal.length x.cg, .slice x.ao x.ops.length x.co] 25)) := by go_grown
  have hP := Lib.hid (Alive.cons (boxS w.heap.size x) (tbox_new w x 25) (Alive.cons (lstS B d plan) (hPl.to hbW hbW.size) (Alive.cons (lstS A c g) (hG.to hbW hbW.size) (Alive.cons (tkS x) (hX.to hbW hbW.size) (Alive.cons tabS (hT.to hbW (Nat.le_refl _)) (Alive.cons (belS w) hbW (Alive.nil _)))))))
  have hIN := Inductive_any x A c g (w.alloc (.cells #[.int .i64 x.n, .slice x.ai x.init.length x.ci, .slice x.ag x.goal.length x.cg, .slice x.ao x.ops.length x.co] 25)) (hX.to hbW hbW.size) (hG.to hbW hbW.size)
  have hpl := hPl.len
  unfold maxLen at hpl
  clear hX hG hPl hT hbW
  by_cases hi : iB x g = true
  case neg =>
    have hi : iB x g = false := by simpa using hi
    rw [hi] at hIN
    have HIN := Lib.hid hIN
    clear hIN hi
    generalize iF x g = r at *
    by_cases hr : r.1 = 0
    · have hne : (r.1 != 0) = false := by simp [hr]
      have hne2 : (r.1 == 0) = true := by simp [hr]
      clear hr
      go_enter Tryd.func4, Tryd.ntmps4
      go_wp2_with (first | (go_at_call 10; (with_reducible refine HIN.out.mono ?_); rintro e w1 ⟨rfl, hb⟩; have hP := Lib.hid (Alive.cons (twoS w1.heap.size (.int .i64 r.1) (.int .i64 r.2)) (two_new w1 _ _ 27) ((hP.out.to hb).to ((Below.refl _ _).alloc (Nat.le_refl _) _))); clear hb; obtain ⟨_, m0, m1, h0, h1⟩ := (show Two _ w1.heap.size (.int .i64 r.1) (.int .i64 r.2) from hP.out (twoS w1.heap.size (.int .i64 r.1) (.int .i64 r.2)) (by simp)); obtain ⟨_, t0, t1, t2, t3⟩ := (show TBox _ w.heap.size x from hP.out (boxS w.heap.size x) (by simp))) | (go_at_call 11; have hTb := (show TabIn _ from hP.out tabS (by simp)); (with_reducible refine (groups_any HSC _ hTb).mono ?_); clear hTb; rintro e w2 ⟨rfl, hb⟩; have hP := Lib.hid (hP.out.to hb); clear hb; obtain ⟨_, m0, m1, h0, h1⟩ := (show Two _ w1.heap.size (.int .i64 r.1) (.int .i64 r.2) from hP.out (twoS w1.heap.size (.int .i64 r.1) (.int .i64 r.2)) (by simp)); obtain ⟨_, t0, t1, t2, t3⟩ := (show TBox _ w.heap.size x from hP.out (boxS w.heap.size x) (by simp))))
      go_ret
      exact ⟨rfl, hP.out (belS w) (by simp)⟩
    · have hne : (r.1 != 0) = true := by simpa using hr
      have hne2 : (r.1 == 0) = false := by simpa using hr
      clear hr
      go_enter Tryd.func4, Tryd.ntmps4
      go_wp2_with (first | (go_at_call 10; (with_reducible refine HIN.out.mono ?_); rintro e w1 ⟨rfl, hb⟩; have hP := Lib.hid (Alive.cons (twoS w1.heap.size (.int .i64 r.1) (.int .i64 r.2)) (two_new w1 _ _ 27) ((hP.out.to hb).to ((Below.refl _ _).alloc (Nat.le_refl _) _))); clear hb; obtain ⟨_, m0, m1, h0, h1⟩ := (show Two _ w1.heap.size (.int .i64 r.1) (.int .i64 r.2) from hP.out (twoS w1.heap.size (.int .i64 r.1) (.int .i64 r.2)) (by simp)); obtain ⟨_, t0, t1, t2, t3⟩ := (show TBox _ w.heap.size x from hP.out (boxS w.heap.size x) (by simp))) | (go_at_call 11; have hTb := (show TabIn _ from hP.out tabS (by simp)); (with_reducible refine (groups_any HSC _ hTb).mono ?_); clear hTb; rintro e w2 ⟨rfl, hb⟩; have hP := Lib.hid (hP.out.to hb); clear hb; obtain ⟨_, m0, m1, h0, h1⟩ := (show Two _ w1.heap.size (.int .i64 r.1) (.int .i64 r.2) from hP.out (twoS w1.heap.size (.int .i64 r.1) (.int .i64 r.2)) (by simp)); obtain ⟨_, t0, t1, t2, t3⟩ := (show TBox _ w.heap.size x from hP.out (boxS w.heap.size x) (by simp))))
      go_ret
      exact ⟨rfl, hP.out (belS w) (by simp)⟩
  have hz : (iF x g).1 = 0 := by unfold iB at hi; simp at hi; exact hi.1
  have hind : indB x g = true := by unfold iB at hi; simp at hi; exact hi.2
  obtain ⟨hz0, htk, hsb⟩ := iF_zero hz
  have hval := tkF_val htk
  have hg24 : IsS g 24 := (setB_iff.1 hsb).mono (by have := hval.eq; have := hval.le; omega)
  have hST := fun h => ply_states (plan := plan) hval hg24 hind h
  have hPZ := fun (h : (plyF x x.init plan).1 = 0) => ply_zero h
  have hPN := fun (h : (plyF x x.init plan).1 ≠ 0) => (show plyL x x.init plan = [] by unfold plyL; rw [if_neg h])
  have hgl : g.length ≤ 24 := isS_len (n := 24) hg24
  rw [hi, hz0] at hIN
  have HIN := Lib.hid hIN
  clear hIN hi hz hind htk hsb hval hg24
  generalize hr0 : ((0 : Int), (0 : Int)) = r at HIN
  have hr1 : r.1 = 0 := by rw [← hr0]
  clear hr0 hz0
  have hne : (r.1 != 0) = false := by simp [hr1]
  have hne2 : (r.1 == 0) = true := by simp [hr1]
  clear hr1
  obtain ⟨q, hq⟩ : ∃ q, plyF x x.init plan = q := ⟨_, rfl⟩
  obtain ⟨ls, hl⟩ : ∃ ls, plyL x x.init plan = ls := ⟨_, rfl⟩
  rw [hq] at hST hPZ hPN
  rw [hl] at hST hPZ hPN
  have HPF := Lib.hid hq
  have HPL := Lib.hid hl
  clear hq hl
  by_cases hq : q.1 = 0
  case neg =>
    have hqe : (q.1 != 0) = true := by simpa using hq
    have hqe2 : (q.1 == 0) = false := by simpa using hq
    have hls := hPN hq
    have hlz : ((ls.length : Int) == 0) = true := by rw [hls]; rfl
    clear hls
    clear hq hST hPZ hPN
    go_enter Tryd.func4, Tryd.ntmps4
    go_wp2_with (first | (go_at_call 10; (with_reducible refine HIN.out.mono ?_); rintro e w1 ⟨rfl, hb⟩; have hP := Lib.hid (Alive.cons (twoS w1.heap.size (.int .i64 r.1) (.int .i64 r.2)) (two_new w1 _ _ 27) ((hP.out.to hb).to ((Below.refl _ _).alloc (Nat.le_refl _) _))); clear hb; obtain ⟨_, m0, m1, h0, h1⟩ := (show Two _ w1.heap.size (.int .i64 r.1) (.int .i64 r.2) from hP.out (twoS w1.heap.size (.int .i64 r.1) (.int .i64 r.2)) (by simp)); obtain ⟨_, t0, t1, t2, t3⟩ := (show TBox _ w.heap.size x from hP.out (boxS w.heap.size x) (by simp))) | (go_at_call 11; have hTb := (show TabIn _ from hP.out tabS (by simp)); (with_reducible refine (groups_any HSC _ hTb).mono ?_); clear hTb; rintro e w2 ⟨rfl, hb⟩; have hP := Lib.hid (hP.out.to hb); clear hb; obtain ⟨_, m0, m1, h0, h1⟩ := (show Two _ w1.heap.size (.int .i64 r.1) (.int .i64 r.2) from hP.out (twoS w1.heap.size (.int .i64 r.1) (.int .i64 r.2)) (by simp)); obtain ⟨_, t0, t1, t2, t3⟩ := (show TBox _ w.heap.size x from hP.out (boxS w.heap.size x) (by simp))) | (go_at_call 16; have hTb := (show TabIn _ from hP.out tabS (by simp)); have hTk := (show TskIn _ _ x from hP.out (tkS x) (by simp)); have hLp := (show Lst _ _ B d plan from hP.out (lstS B d plan) (by simp)); (with_reducible refine (play_any x x.ai B x.ci d x.init plan _ hTk hTk.init hLp hTb).mono ?_); clear hTb hTk hLp; rintro e w3 ⟨v, he, hfr, hb⟩; rw [HPL.out] at hfr; obtain ⟨aL, cL, rfl, hrw, hlc⟩ := hfr.slice; rw [HPF.out] at he; subst he; have hP := Lib.hid (Alive.cons (twoS w3.heap.size (.int .i64 q.1) (.int .i64 q.2)) (two_new w3 _ _ 27) ((Alive.cons (rwsS aL ls) hrw (hP.out.to hb)).to ((Below.refl _ _).alloc (Nat.le_refl _) _))); have HLC := Lib.hid hlc; clear hb hlc; obtain ⟨_, m0, m1, h0, h1⟩ := (show Two _ w1.heap.size (.int .i64 r.1) (.int .i64 r.2) from hP.out (twoS w1.heap.size (.int .i64 r.1) (.int .i64 r.2)) (by simp)); obtain ⟨_, t0, t1, t2, t3⟩ := (show TBox _ w.heap.size x from hP.out (boxS w.heap.size x) (by simp)); obtain ⟨_, n0, n1, i0, i1⟩ := (show Two _ w3.heap.size (.int .i64 q.1) (.int .i64 q.2) from hP.out (twoS w3.heap.size (.int .i64 q.1) (.int .i64 q.2)) (by simp))))
    go_ret
    exact ⟨rfl, hP.out (belS w) (by simp)⟩
  obtain ⟨hq0, hck, hxx, hlen⟩ := hPZ hq
  have h60 := (ck_val hck).2.2.1
  clear hck hxx
  have HST := Lib.hid (hST hq)
  have hqe : (q.1 != 0) = false := by simp [hq]
  have hqe2 : (q.1 == 0) = true := by simp [hq]
  clear hST hPZ hPN hq hq0
  go_enter Tryd.func4, Tryd.ntmps4
  go_wp2_with (first | (go_at_call 10; (with_reducible refine HIN.out.mono ?_); rintro e w1 ⟨rfl, hb⟩; have hP := Lib.hid (Alive.cons (twoS w1.heap.size (.int .i64 r.1) (.int .i64 r.2)) (two_new w1 _ _ 27) ((hP.out.to hb).to ((Below.refl _ _).alloc (Nat.le_refl _) _))); clear hb; obtain ⟨_, m0, m1, h0, h1⟩ := (show Two _ w1.heap.size (.int .i64 r.1) (.int .i64 r.2) from hP.out (twoS w1.heap.size (.int .i64 r.1) (.int .i64 r.2)) (by simp)); obtain ⟨_, t0, t1, t2, t3⟩ := (show TBox _ w.heap.size x from hP.out (boxS w.heap.size x) (by simp))) | (go_at_call 11; have hTb := (show TabIn _ from hP.out tabS (by simp)); (with_reducible refine (groups_any HSC _ hTb).mono ?_); clear hTb; rintro e w2 ⟨rfl, hb⟩; have hP := Lib.hid (hP.out.to hb); clear hb; obtain ⟨_, m0, m1, h0, h1⟩ := (show Two _ w1.heap.size (.int .i64 r.1) (.int .i64 r.2) from hP.out (twoS w1.heap.size (.int .i64 r.1) (.int .i64 r.2)) (by simp)); obtain ⟨_, t0, t1, t2, t3⟩ := (show TBox _ w.heap.size x from hP.out (boxS w.heap.size x) (by simp))) | (go_at_call 16; have hTb := (show TabIn _ from hP.out tabS (by simp)); have hTk := (show TskIn _ _ x from hP.out (tkS x) (by simp)); have hLp := (show Lst _ _ B d plan from hP.out (lstS B d plan) (by simp)); (with_reducible refine (play_any x x.ai B x.ci d x.init plan _ hTk hTk.init hLp hTb).mono ?_); clear hTb hTk hLp; rintro e w3 ⟨v, he, hfr, hb⟩; rw [HPL.out] at hfr; obtain ⟨aL, cL, rfl, hrw, hlc⟩ := hfr.slice; rw [HPF.out] at he; subst he; have hP := Lib.hid (Alive.cons (twoS w3.heap.size (.int .i64 q.1) (.int .i64 q.2)) (two_new w3 _ _ 27) ((Alive.cons (rwsS aL ls) hrw (hP.out.to hb)).to ((Below.refl _ _).alloc (Nat.le_refl _) _))); have HLC := Lib.hid hlc; clear hb hlc; obtain ⟨_, m0, m1, h0, h1⟩ := (show Two _ w1.heap.size (.int .i64 r.1) (.int .i64 r.2) from hP.out (twoS w1.heap.size (.int .i64 r.1) (.int .i64 r.2)) (by simp)); obtain ⟨_, t0, t1, t2, t3⟩ := (show TBox _ w.heap.size x from hP.out (boxS w.heap.size x) (by simp)); obtain ⟨_, n0, n1, i0, i1⟩ := (show Two _ w3.heap.size (.int .i64 q.1) (.int .i64 q.2) from hP.out (twoS w3.heap.size (.int .i64 q.1) (.int .i64 q.2)) (by simp))))
  generalize hU : (w3.alloc (.cells #[.int .i64 q.1, .int .i64 q.2] 27)) = U at *
  clear hU t0 t1 t2 t3 m0 m1 h0 h1 n0 n1 i0 i1
  have HAL := Lib.hid (fun (V : World) (h : Below U.heap.size U V) => hP.out.to h)
  clear hP
  go_loopw [11] (fun i wr => ∃ k : Nat, k ≤ ls.length ∧ i = .int .i64 k ∧ Below U.heap.size U wr) (fun i _ => ls.length - (intOf i).toNat)
  case atStart => exact ⟨0, by omega, rfl, Below.refl _ _⟩
  case round =>
    obtain ⟨k, hk, rfl, hbw⟩ := hrel
    have HB := Lib.hid hbw
    clear hbw
    by_cases hlt : k < ls.length
    case neg =>
      have hge : ¬ ((k : Int) < ls.length) := by omega
      have hle : ((ls.length : Int) == (plan.length : Int) + 1) = true := by rw [hlen]; simp
      go_wp2
      go_ret
      exact ⟨rfl, HAL.out _ HB.out (belS w) (by simp)⟩
    obtain ⟨b1, o1, ak, ck, rfl, hb1, hc1, hl1⟩ := (show Rws _ _ aL ls from HAL.out _ HB.out (rwsS aL ls) (by simp)).at_ hlt
    have hCI := countIn_any A ak c ck g (rw_ ls k) wr (show Lst _ _ A c g from HAL.out _ HB.out (lstS A c g) (by simp)).nums hl1.nums (by omega) hl1.len
    clear hl1
    have hcn := HST.out k hlt
    generalize cntB g (rw_ ls k) = cn at *
    have HCI := Lib.hid hCI
    clear hCI
    have d1 : decide ((1 : Int) < cn) = false := decide_eq_false (by omega)
    go_wp2_with (go_at_call 17; (with_reducible refine HCI.out.mono ?_); rintro e w4 ⟨rfl, rfl⟩)
    go_roundw
    case rel => exact ⟨k + 1, by omega, by go_num, HB.out⟩
    case measure => simp [intOf]; omega
end Go.Proofs.YtenmegkokclolaaDoor
