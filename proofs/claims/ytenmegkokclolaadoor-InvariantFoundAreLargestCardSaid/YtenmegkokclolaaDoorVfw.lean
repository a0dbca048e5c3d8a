/- The law InvariantFoundAreLargest. -/
import Derived.Test.YtenmegkokclolaaDoorVfp
import Derived.Test.YtenmegkokclolaaDoorMzx
import Derived.Deep.RegionHeld3
namespace Go.Proofs.YtenmegkokclolaaDoor
open Go.RowKit
set_option linter.unusedSimpArgs false
set_option linter.unusedVariables false
set_option maxRecDepth 100000

/-- What the law asks of the groups that are found. -/
structure FndOk (x : Tsk) (ls : List (List Int)) : Prop where
  set : ∀ k, k < ls.length → IsS (rw_ ls k) 24
  len : ∀ k, k < ls.length → 2 ≤ (rw_ ls k).length
  ind : ∀ k, k < ls.length → iF x (rw_ ls k) = (0, 0) ∧ iB x (rw_ ls k) = true
  anti : ∀ k j, k < ls.length → j < ls.length → j ≠ k → subB (rw_ ls k) (rw_ ls j) = false
  max : ∀ k p c, k < ls.length → 0 ≤ p → p < x.n → p ∉ rw_ ls k → Cut (rw_ ls k) p c → iF x (wthL (rw_ ls k) p c) = (0, 0) ∧ iB x (wthL (rw_ ls k) p c) = false
theorem fd_ok {x : Tsk} {ls : List (List Int)} (h : (fdF x).1 = 0) (hp : ls.Perm (fdL x)) : FndOk x ls ∧ (tkF x).1 = 0 ∧ x.n ≤ 10 := by
  have htk : (tkF x).1 = 0 := by
    unfold fdF at h
    by_cases h1 : (tkF x).1 = 0
    · exact h1
    · rw [if_pos h1] at h; exact absurd h h1
  have h10 : x.n ≤ 10 := by
    unfold fdF at h
    rw [if_neg (by simpa using htk)] at h
    by_cases h1 : 10 < x.n
    · rw [if_pos h1] at h; cases h
    · omega
  have hv := tkF_val htk
  have hn := hv.eq
  have hle := hv.le
  have hz : tkF x = (0, 0) := tkF_fst htk
  have hmem : ∀ k, k < ls.length → rw_ ls k ∈ lgs x x.n.toNat (2 ^ x.n.toNat) := fun k hk => hp.subset (rw_mem hk)
  have hset : ∀ k, k < ls.length → IsS (rw_ ls k) x.n.toNat := fun k hk => by
    obtain ⟨i, _, e, _⟩ := lgs_in (hmem k hk)
    rw [e]; exact grL_isS _ _
  have hif : ∀ g, IsS g x.n.toNat → iF x g = (0, 0) := fun g hg => by
    unfold iF
    rw [hz, if_neg (by simp), if_pos (setB_iff.2 (by rw [hn]; exact hg))]
  have hib : ∀ g, IsS g x.n.toNat → iB x g = indB x g := fun g hg => by
    unfold iB
    rw [hif g hg]; rfl
  refine ⟨⟨fun k hk => (hset k hk).mono (by omega), fun k hk => ?_, fun k hk => ?_, fun k j hk hj hne => ?_, fun k p c hk h0 h1 hpn hc => ?_⟩, htk, h10⟩
  · obtain ⟨i, _, _, _, hl, _⟩ := lgs_in (hmem k hk)
    omega
  · obtain ⟨i, _, _, _, _, hi, _⟩ := lgs_in (hmem k hk)
    exact ⟨hif _ (hset k hk), by rw [hib _ (hset k hk)]; exact hi⟩
  · refine fd_anti hle (hmem k hk) (hmem j hj) (fun e => ?_)
    have hnd : ls.Nodup := hp.nodup_iff.2 (fd_nodup hle _ (Nat.le_refl _))
    simp only [rw_, List.getD, List.getElem?_eq_getElem hk, List.getElem?_eq_getElem hj, Option.getD_some] at e
    rcases Nat.lt_trichotomy j k with h1 | h1 | h1
    · exact List.pairwise_iff_getElem.1 hnd j k hj hk h1 e.symm
    · exact hne h1
    · exact List.pairwise_iff_getElem.1 hnd k j hk hj h1 e
  · have hw := wth_isS (hset k hk) ⟨h0, by omega⟩ hc
    exact ⟨hif _ hw, by rw [hib _ hw]; exact fd_max hle (hmem k hk) hw wth_sub (wth_ne hpn)⟩
theorem wpAnyF_two {P : Program} {ops : Array Oper} {Q : Exit → Act → World → Prop} {md : Region.Mode} {S : World → Prop} {m i j : Nat} {o o' : Oper} {f : Nat} {listed : Array Bool} {a : Act} {w : World} (hr : Region.ready md ops listed = [i, j]) (ho : ops[i]? = some o) (ho' : ops[j]? = some o')
    (h : ∀ K' : Act → World → Prop, Shut (∀ a w, S w → (S w → wpAnyF P md ops Q S m f (listed.setIfInBounds i true) a w) → K' a w) → if Region.wanted o (yielded ops a.tmps) = true then Oper.wp P o a w K' Q else K' (a.put o.dst undef) w)
    (h' : ∀ K' : Act → World → Prop, Shut (∀ a w, S w → (S w → wpAnyF P md ops Q S m f (listed.setIfInBounds j true) a w) → K' a w) → if Region.wanted o' (yielded ops a.tmps) = true then Oper.wp P o' a w K' Q else K' (a.put o'.dst undef) w) :
    wpAnyF P md ops Q S m (f + 1) listed a w := by
  refine ⟨fun h => (by rw [hr] at h; cases h), fun k hk => ?_⟩
  rw [hr] at hk
  rcases List.mem_cons.1 hk with rfl | hk
  · exact wpOp_step ho (fun K' hK => h K' (fun a w hS hW => hK a w ⟨fun _ => hS, hW hS⟩))
  · obtain rfl := List.mem_singleton.1 hk
    exact wpOp_step ho' (fun K' hK => h' K' (fun a w hS hW => hK a w ⟨fun _ => hS, hW hS⟩))
theorem in_no2 {x a b : Int} {q : Bool} (h : inB x a b = q) (w : World) : Calls Tryd.prog 18 #[.int .i64 x, .int .i64 a, .int .i64 b] w fun e w' => e = .returned (.bool q) ∧ w = w' := by
  have := in_any x a b w
  rwa [h] at this
set_option maxHeartbeats 8000000 in
theorem found_law (HSC : SortC) (x : Tsk) (p : Int) (w : World) (hX : TskIn w w.heap.size x) (hT : TabIn w) :
    Calls Tryd.prog 5 #[.agg #[.int .i64 x.n, .slice x.ai x.init.length x.ci, .slice x.ag x.goal.length x.cg, .slice x.ao x.ops.length x.co], .int .i64 p] w fun e w' => e = .returned (.bool true) ∧ Below w.heap.size w w' := by
  have hbW : Below w.heap.size w (w.alloc (.cells #[.int .i64 x.n, .slice x.ai x.init.length x.ci, .slice x.ag x.goal.length x.cg, .slice x.ao x.ops.length x.co] 25)) := by go_grown
  have hP := Lib.hid (Alive.cons (boxS w.heap.size x) (tbox_new w x 25) (Alive.cons (tkS x) (hX.to hbW hbW.size) (Alive.cons tabS (hT.to hbW (Nat.le_refl _)) (Alive.cons (belS w) hbW (Alive.nil _)))))
  have hFN := (find_any HSC x (w.alloc (.cells #[.int .i64 x.n, .slice x.ai x.init.length x.ci, .slice x.ag x.goal.length x.cg, .slice x.ao x.ops.length x.co] 25)) (hX.to hbW hbW.size) (hT.to hbW (Nat.le_refl _))).mono (fun e w' (h : FdPost _ x e w') => h)
  unfold FdPost at hFN
  clear hX hT hbW
  have hFD := fun (h : (fdF x).1 = 0) (ls : List (List Int)) (hp : ls.Perm (fdL x)) => fd_ok h hp
  generalize hr0 : fdF x = r at *
  have HFN := Lib.hid hFN
  have HFD := Lib.hid hFD
  clear hFN hFD hr0
  by_cases hr : r.1 = 0
  case neg =>
    have hne : (r.1 != 0) = true := by simpa using hr
    have hne2 : (r.1 == 0) = false := by simpa using hr
    have HR := Lib.hid hr
    clear hr
    go_enter Tryd.func5, Tryd.ntmps5
    go_wp2_with (first | (go_at_call 13; (with_reducible refine HFN.out.mono ?_); rintro e w1 ⟨v, ls, rfl, hfr, hb, hok, hno⟩; obtain ⟨aL, cL, rfl, hrw, hlc⟩ := hfr.slice; have HOK := Lib.hid hok; have HNO := Lib.hid hno; have HLC := Lib.hid hlc; have hP := Lib.hid (Alive.cons (twoS w1.heap.size (.int .i64 r.1) (.int .i64 r.2)) (two_new w1 _ _ 27) ((Alive.cons (rwsS aL ls) hrw (hP.out.to hb)).to ((Below.refl _ _).alloc (Nat.le_refl _) _))); clear hb hok hno hlc hrw hfr; obtain ⟨_, m0, m1, h0, h1⟩ := (show Two _ w1.heap.size (.int .i64 r.1) (.int .i64 r.2) from hP.out (twoS w1.heap.size (.int .i64 r.1) (.int .i64 r.2)) (by simp)); obtain ⟨_, t0, t1, t2, t3⟩ := (show TBox _ w.heap.size x from hP.out (boxS w.heap.size x) (by simp))) | (go_at_call 11; have hTb := (show TabIn _ from hP.out tabS (by simp)); (with_reducible refine (groups_any HSC _ hTb).mono ?_); clear hTb; rintro e w2 ⟨rfl, hb⟩; have hP := Lib.hid (hP.out.to hb); clear hb; obtain ⟨_, m0, m1, h0, h1⟩ := (show Two _ w1.heap.size (.int .i64 r.1) (.int .i64 r.2) from hP.out (twoS w1.heap.size (.int .i64 r.1) (.int .i64 r.2)) (by simp)); obtain ⟨_, t0, t1, t2, t3⟩ := (show TBox _ w.heap.size x from hP.out (boxS w.heap.size x) (by simp))))
    go_ret
    exact ⟨ret_bool (by rw [HNO.out HR.out]; rfl), hP.out (belS w) (by simp)⟩
  have hne : (r.1 != 0) = false := by simp [hr]
  have hne2 : (r.1 == 0) = true := by simp [hr]
  have HR := Lib.hid hr
  clear hr
  go_enter Tryd.func5, Tryd.ntmps5
  go_wp2_with (first | (go_at_call 13; (with_reducible refine HFN.out.mono ?_); rintro e w1 ⟨v, ls, rfl, hfr, hb, hok, hno⟩; obtain ⟨aL, cL, rfl, hrw, hlc⟩ := hfr.slice; have HOK := Lib.hid hok; have HNO := Lib.hid hno; have HLC := Lib.hid hlc; have hP := Lib.hid (Alive.cons (twoS w1.heap.size (.int .i64 r.1) (.int .i64 r.2)) (two_new w1 _ _ 27) ((Alive.cons (rwsS aL ls) hrw (hP.out.to hb)).to ((Below.refl _ _).alloc (Nat.le_refl _) _))); clear hb hok hno hlc hrw hfr; obtain ⟨_, m0, m1, h0, h1⟩ := (show Two _ w1.heap.size (.int .i64 r.1) (.int .i64 r.2) from hP.out (twoS w1.heap.size (.int .i64 r.1) (.int .i64 r.2)) (by simp)); obtain ⟨_, t0, t1, t2, t3⟩ := (show TBox _ w.heap.size x from hP.out (boxS w.heap.size x) (by simp))) | (go_at_call 11; have hTb := (show TabIn _ from hP.out tabS (by simp)); (with_reducible refine (groups_any HSC _ hTb).mono ?_); clear hTb; rintro e w2 ⟨rfl, hb⟩; have hP := Lib.hid (hP.out.to hb); clear hb; obtain ⟨_, m0, m1, h0, h1⟩ := (show Two _ w1.heap.size (.int .i64 r.1) (.int .i64 r.2) from hP.out (twoS w1.heap.size (.int .i64 r.1) (.int .i64 r.2)) (by simp)); obtain ⟨_, t0, t1, t2, t3⟩ := (show TBox _ w.heap.size x from hP.out (boxS w.heap.size x) (by simp))))
  obtain ⟨hFO, htk, h10⟩ := HFD.out HR.out ls (HOK.out HR.out).1
  have hlm : ls.length ≤ maxLen := Nat.le_trans HLC.out.1 HLC.out.2
  unfold maxLen at hlm
  have hnb : 0 ≤ x.n := by have := (tkF_val htk).eq; omega
  have HFO := Lib.hid hFO
  have HAL := Lib.hid (fun (V : World) (h : Below w2.heap.size w2 V) => hP.out.to h)
  clear hP hFO HFD HOK HNO t0 t1 t2 t3 m0 m1 h0 h1 htk
  go_loopw [7] (fun i wr => ∃ k : Nat, k ≤ ls.length ∧ i = .int .i64 k ∧ Below w2.heap.size w2 wr) (fun i _ => ls.length - (intOf i).toNat)
  case atStart => exact ⟨0, by omega, rfl, Below.refl _ _⟩
  case round =>
    obtain ⟨k, hk, rfl, hbw⟩ := hrel
    have HB := Lib.hid hbw
    have hP := Lib.hid (HAL.out _ hbw)
    clear hbw
    by_cases hlt : k < ls.length
    case neg =>
      have hge : ¬ ((k : Int) < ls.length) := by omega
      go_wp2
      go_ret
      exact ⟨rfl, hP.out (belS w) (by simp)⟩
    rename World => wo
    obtain ⟨bL, oL, ak, ck, haL, hbL, hcL, hlL⟩ := (show Rws _ _ aL ls from hP.out (rwsS aL ls) (by simp)).at_ hlt
    have HAL2 := Lib.hid haL
    have HLST := Lib.hid (fun (V : World) (h : Below wo.heap.size wo V) => hlL.to h h.size)
    subst haL
    have HCL := Lib.hid (fun (V : World) (h : Below wo.heap.size wo V) => (h.cell (p := ⟨bL, oL + k, none⟩) hbL).trans hcL)
    have hIN := fun (V : World) (h : Below wo.heap.size wo V) => Inductive_any x ak ck (rw_ ls k) V ((show TskIn _ _ x from hP.out (tkS x) (by simp)).to h h.size) (HLST.out V h)
    rw [(HFO.out.ind k hlt).1, (HFO.out.ind k hlt).2] at hIN
    have HIN := Lib.hid hIN
    have HSO := Lib.hid (fun (V : World) (h : Below wo.heap.size wo V) => (⟨((show TBox _ w.heap.size x from hP.out (boxS w.heap.size x) (by simp)).to h (show TBox _ w.heap.size x from hP.out (boxS w.heap.size x) (by simp)).lt).c0, ((show TBox _ w.heap.size x from hP.out (boxS w.heap.size x) (by simp)).to h (show TBox _ w.heap.size x from hP.out (boxS w.heap.size x) (by simp)).lt).c1, ((show TBox _ w.heap.size x from hP.out (boxS w.heap.size x) (by simp)).to h (show TBox _ w.heap.size x from hP.out (boxS w.heap.size x) (by simp)).lt).c2, ((show TBox _ w.heap.size x from hP.out (boxS w.heap.size x) (by simp)).to h (show TBox _ w.heap.size x from hP.out (boxS w.heap.size x) (by simp)).lt).c3, HCL.out V h⟩ : V.cell? ⟨w.heap.size, 0, none⟩ = some (.int .i64 x.n) ∧ V.cell? ⟨w.heap.size, 1, none⟩ = some (.slice x.ai x.init.length x.ci) ∧ V.cell? ⟨w.heap.size, 2, none⟩ = some (.slice x.ag x.goal.length x.cg) ∧ V.cell? ⟨w.heap.size, 3, none⟩ = some (.slice x.ao x.ops.length x.co) ∧ V.cell? ⟨bL, oL + k, none⟩ = some (.slice ak (rw_ ls k).length ck)))
    clear hIN hlL hcL
    go_wp2
    refine wp_region_F (S := (fun V => V.cell? ⟨w.heap.size, 0, none⟩ = some (.int .i64 x.n) ∧ V.cell? ⟨w.heap.size, 1, none⟩ = some (.slice x.ai x.init.length x.ci) ∧ V.cell? ⟨w.heap.size, 2, none⟩ = some (.slice x.ag x.goal.length x.cg) ∧ V.cell? ⟨w.heap.size, 3, none⟩ = some (.slice x.ao x.ops.length x.co) ∧ V.cell? ⟨bL, oL + k, none⟩ = some (.slice ak (rw_ ls k).length ck))) 11 (by kernel_rfl) ?_ (fun hHeld => ?_)
    · exact HSO.out _ (Below.refl _ _).drew
    refine wpAnyF_take (i := 0) (oi := _) (v := ?v67) rfl (by kernel_rfl) (by kernel_rfl) (by kernel_rfl) (by kernel_rfl) (by kernel_rfl) (by kernel_rfl) (by kernel_rfl) (by kernel_rfl) (fun _ _ _ h => h) (Or.inl ⟨by rfl, ?hy67⟩) (by assumption) ?rest67
    case hy67 => (intro w hSw; (try dsimp only at hSw); go_simp; try (with_reducible rfl))
    try simp only [Act.put, List.setIfInBounds_toArray, List.set_cons_zero, List.set_cons_succ]
    refine wpAnyF_take (i := 1) (oi := _) (v := ?v68) rfl (by kernel_rfl) (by kernel_rfl) (by kernel_rfl) (by kernel_rfl) (by kernel_rfl) (by kernel_rfl) (by kernel_rfl) (by kernel_rfl) (fun _ _ _ h => h) (Or.inl ⟨by rfl, ?hy68⟩) (by assumption) ?rest68
    case hy68 => (intro w hSw; (try dsimp only at hSw); go_simp; try (with_reducible rfl))
    try simp only [Act.put, List.setIfInBounds_toArray, List.set_cons_zero, List.set_cons_succ]
    refine wpAnyF_take (i := 2) (oi := _) (v := ?v69) rfl (by kernel_rfl) (by kernel_rfl) (by kernel_rfl) (by kernel_rfl) (by kernel_rfl) (by kernel_rfl) (by kernel_rfl) (by kernel_rfl) (fun _ _ _ h => h) (Or.inl ⟨by rfl, ?hy69⟩) (by assumption) ?rest69
    case hy69 => (intro w hSw; (try dsimp only at hSw); go_simp; try (with_reducible rfl))
    try simp only [Act.put, List.setIfInBounds_toArray, List.set_cons_zero, List.set_cons_succ]
    refine wpAnyF_take (i := 3) (oi := _) (v := ?v70) rfl (by kernel_rfl) (by kernel_rfl) (by kernel_rfl) (by kernel_rfl) (by kernel_rfl) (by kernel_rfl) (by kernel_rfl) (by kernel_rfl) (fun _ _ _ h => h) (Or.inl ⟨by rfl, ?hy70⟩) (by assumption) ?rest70
    case hy70 => (intro w hSw; (try dsimp only at hSw); go_simp; try (with_reducible rfl))
    try simp only [Act.put, List.setIfInBounds_toArray, List.set_cons_zero, List.set_cons_succ]
    refine wpAnyF_take (i := 4) (oi := _) (v := ?v71) rfl (by kernel_rfl) (by kernel_rfl) (by kernel_rfl) (by kernel_rfl) (by kernel_rfl) (by kernel_rfl) (by kernel_rfl) (by kernel_rfl) (fun _ _ _ h => h) (Or.inl ⟨by rfl, ?hy71⟩) (by assumption) ?rest71
    case hy71 => (intro w hSw; (try dsimp only at hSw); go_simp; try (with_reducible rfl))
    try simp only [Act.put, List.setIfInBounds_toArray, List.set_cons_zero, List.set_cons_succ]
    refine wpAnyF_two (i := 5) (j := 9) (o := _) (o' := _) (by kernel_rfl) rfl rfl (fun KA72 hKA72 => ?_) (fun KB72 hKB72 => ?_)
    · skip
      go_simp
      go_at_call 10; (with_reducible refine (HIN.out _ (Below.refl _ _).drew).mono ?_); rintro e wI ⟨rfl, hbI⟩; have HWA := Lib.hid (bel_go (Below.refl wo.heap.size wo).drew hbI); have HWB := Lib.hid (bel_go HWA.out (al_b wI (.cells #[.int .i64 0, .int .i64 0] 27))); clear hbI
      refine hKA72.out _ _ ?_ (fun hHeld => ?_)
      · exact HSO.out _ HWA.out
      clear hKA72 KA72
      try simp only [Act.put, List.setIfInBounds_toArray, List.set_cons_zero, List.set_cons_succ]
      refine wpAnyF_take (i := 6) (oi := _) (v := ?v29) rfl (by kernel_rfl) (by kernel_rfl) (by kernel_rfl) (by kernel_rfl) (by kernel_rfl) (by kernel_rfl) (by kernel_rfl) (by kernel_rfl) (fun _ _ _ h => h) (Or.inl ⟨by rfl, ?hy29⟩) (by assumption) ?rest29
      case hy29 => (intro w hSw; (try dsimp only at hSw); go_simp; try (with_reducible rfl))
      try simp only [Act.put, List.setIfInBounds_toArray, List.set_cons_zero, List.set_cons_succ]
      refine wpAnyF_take (i := 7) (oi := _) (v := ?v30) rfl (by kernel_rfl) (by kernel_rfl) (by kernel_rfl) (by kernel_rfl) (by kernel_rfl) (by kernel_rfl) (by kernel_rfl) (by kernel_rfl) (fun _ _ _ h => h) (Or.inl ⟨by rfl, ?hy30⟩) (by assumption) ?rest30
      case hy30 => (intro w hSw; (try dsimp only at hSw); go_simp; try (with_reducible rfl))
      try simp only [Act.put, List.setIfInBounds_toArray, List.set_cons_zero, List.set_cons_succ]
      refine wpAnyF_take (i := 8) (oi := _) (v := ?v31) rfl (by kernel_rfl) (by kernel_rfl) (by kernel_rfl) (by kernel_rfl) (by kernel_rfl) (by kernel_rfl) (by kernel_rfl) (by kernel_rfl) (fun _ _ _ h => h) (Or.inl ⟨by rfl, ?hy31⟩) (by assumption) ?rest31
      case hy31 => (intro w hSw; (try dsimp only at hSw); go_simp; try (with_reducible rfl))
      try simp only [Act.put, List.setIfInBounds_toArray, List.set_cons_zero, List.set_cons_succ]
      refine wpAnyF_one (i := 9) (o := _) (by kernel_rfl) rfl (fun K32 hK32 => ?_)
      go_simp
      refine hK32.out _ _ ?_ (fun hHeld => ?_)
      · exact HSO.out _ HWB.out
      clear hK32 K32
      try simp only [Act.put, List.setIfInBounds_toArray, List.set_cons_zero, List.set_cons_succ]
      refine wpAnyF_take (i := 10) (oi := _) (v := ?v33) rfl (by kernel_rfl) (by kernel_rfl) (by kernel_rfl) (by kernel_rfl) (by kernel_rfl) (by kernel_rfl) (by kernel_rfl) (by kernel_rfl) (fun _ _ _ h => h) (Or.inl ⟨by rfl, ?hy33⟩) (by assumption) ?rest33
      case hy33 => (intro w hSw; (try dsimp only at hSw); go_simp; try (with_reducible rfl))
      try simp only [Act.put, List.setIfInBounds_toArray, List.set_cons_zero, List.set_cons_succ]
      refine wpAnyF_end (o := _) (by kernel_rfl) rfl (by kernel_rfl) (fun K1 hK1 => ?_)
      go_simp
      refine hK1.out _ _ ?_
      clear hK1 K1
      try simp only [Act.put, List.setIfInBounds_toArray, List.set_cons_zero, List.set_cons_succ]
      have HV := Lib.hid HWB.out
      have HTF := Lib.hid (two_new wI (.int .i64 0) (.int .i64 0) 27)
      clear HWA HWB
      generalize hV : wI.alloc (.cells #[.int .i64 0, .int .i64 0] 27) = V at HV HTF ⊢
      generalize hgf : wI.heap.size = gf at HTF ⊢
      clear hV hgf
      have HBV := Lib.hid (HB.out.trans (HV.out.mono HB.out.size))
      have hP := Lib.hid (HAL.out _ HBV.out)
      obtain ⟨_, t0, t1, t2, t3⟩ := (show TBox _ w.heap.size x from hP.out (boxS w.heap.size x) (by simp))
      obtain ⟨_, k0, k1, _, _⟩ := HTF.out
      have hcv := HCL.out _ HV.out
      have hl2 := HFO.out.len k hlt
      have hl24 := isS_len (n := 24) (HFO.out.set k hlt)
      have dl2 : decide (((rw_ ls k).length : Int) < 2) = false := decide_eq_false (by omega)
      have HHS := Lib.hid (has_any ak ck (rw_ ls k) p V (HLST.out _ HV.out).nums (HLST.out _ HV.out).len)
      cases hin : inB p 0 (x.n - 1)
      · go_wp2_with (first | (go_at_call 18; refine (in_no2 hin _).mono ?_; rintro e w' ⟨rfl, rfl⟩))
        clear t0 t1 t2 t3 k0 k1 hcv
        go_loopw [12] (fun j wr => ∃ q : Nat, q ≤ ls.length ∧ j = .int .i64 q ∧ Below wo.heap.size wo wr) (fun j _ => ls.length - (intOf j).toNat)
        case atStart => exact ⟨0, by omega, rfl, HV.out⟩
        case round =>
          obtain ⟨q, hq, rfl, hbq⟩ := hrel
          have HBQ := Lib.hid hbq
          have HW2 := Lib.hid (HB.out.trans (hbq.mono HB.out.size))
          clear hbq
          have hP := Lib.hid (HAL.out _ HW2.out)
          by_cases hql : q < ls.length
          case neg =>
            have hge : ¬ ((q : Int) < ls.length) := by omega
            go_wp2
            go_roundw
            case rel => exact ⟨k + 1, by omega, by go_num, HW2.out⟩
            case measure => simp [intOf]; omega
          have hck := HCL.out _ HBQ.out
          obtain ⟨b', o', aq, cq, e', _, hcq, hlq⟩ := (show Rws _ _ (some ⟨bL, oL, none⟩) ls from hP.out (rwsS (some ⟨bL, oL, none⟩) ls) (by simp)).at_ hql
          cases e'
          by_cases hqk : q = k
          · subst hqk
            have dne : ((q : Int) != (q : Int)) = false := by simp
            have dne2 : ((q : Int) == (q : Int)) = true := by simp
            clear hlq
            go_wp2
            go_quiet (first | (go_at_call 21; (with_reducible refine quiet_same (HSU.out _))))
            go_wp2
            go_roundw
            case rel => exact ⟨q + 1, by omega, by go_num, belowN HBQ.out _⟩
            case measure => simp [intOf]; omega
          · have dne : ((q : Int) != (k : Int)) = true := by simp; omega
            have dne2 : ((q : Int) == (k : Int)) = false := by simp; omega
            have hsu := fun n : Nat => subset_any ak aq ck cq (rw_ ls k) (rw_ ls q) (wr.drewN n) (HLST.out (wr.drewN n) (belowN HBQ.out n)).nums (hlq.to (belowN (Below.refl wr.heap.size wr) n) (belowN (Below.refl wr.heap.size wr) n).size).nums (HLST.out (wr.drewN n) (belowN HBQ.out n)).len hlq.len
            rw [HFO.out.anti k q hlt hql hqk] at hsu
            have HSU := Lib.hid hsu
            clear hsu hlq
            go_wp2
            go_quiet (first | (go_at_call 21; (with_reducible refine quiet_same (HSU.out _))))
            go_wp2
            go_roundw
            case rel => exact ⟨q + 1, by omega, by go_num, belowN HBQ.out _⟩
            case measure => simp [intOf]; omega
      · cases hhs : hasB (rw_ ls k) p
        · rw [hhs] at HHS
          obtain ⟨hp0, hp1'⟩ := inB_iff.1 hin
          have hp1 : p < x.n := by omega
          have hpn : p ∉ rw_ ls k := of_decide_eq_false hhs
          have HTK := Lib.hid (fun (X : World) (h : Below wo.heap.size wo X) => (show TskIn _ _ x from HAL.out _ (HB.out.trans (h.mono HB.out.size)) (tkS x) (by simp)))
          have HWI := Lib.hid (fun (X : World) (h : Below wo.heap.size wo X) => with_any ak ck (rw_ ls k) p X (HLST.out X h) (by omega) hl24 (HFO.out.set k hlt).1 hpn)
          go_wp2_with (first | (go_at_call 18; refine (in_no2 hin _).mono ?_; rintro e w' ⟨rfl, rfl⟩) | (go_at_call 19; (with_reducible refine HHS.out.mono ?_); rintro e w' ⟨rfl, rfl⟩))
          refine wp_region_F (S := (fun V => V.cell? ⟨w.heap.size, 0, none⟩ = some (.int .i64 x.n) ∧ V.cell? ⟨w.heap.size, 1, none⟩ = some (.slice x.ai x.init.length x.ci) ∧ V.cell? ⟨w.heap.size, 2, none⟩ = some (.slice x.ag x.goal.length x.cg) ∧ V.cell? ⟨w.heap.size, 3, none⟩ = some (.slice x.ao x.ops.length x.co) ∧ V.cell? ⟨bL, oL + k, none⟩ = some (.slice ak (rw_ ls k).length ck))) 13 (by kernel_rfl) ?_ (fun hHeld => ?_)
          · exact HSO.out _ HV.out.drew
          refine wpAnyF_take (i := 0) (oi := _) (v := ?v22) rfl (by kernel_rfl) (by kernel_rfl) (by kernel_rfl) (by kernel_rfl) (by kernel_rfl) (by kernel_rfl) (by kernel_rfl) (by kernel_rfl) (fun _ _ _ h => h) (Or.inl ⟨by rfl, ?hy22⟩) (by assumption) ?rest22
          case hy22 => (intro w hSw; (try dsimp only at hSw); go_simp; try (with_reducible rfl))
          try simp only [Act.put, List.setIfInBounds_toArray, List.set_cons_zero, List.set_cons_succ]
          refine wpAnyF_take (i := 1) (oi := _) (v := ?v23) rfl (by kernel_rfl) (by kernel_rfl) (by kernel_rfl) (by kernel_rfl) (by kernel_rfl) (by kernel_rfl) (by kernel_rfl) (by kernel_rfl) (fun _ _ _ h => h) (Or.inl ⟨by rfl, ?hy23⟩) (by assumption) ?rest23
          case hy23 => (intro w hSw; (try dsimp only at hSw); go_simp; try (with_reducible rfl))
          try simp only [Act.put, List.setIfInBounds_toArray, List.set_cons_zero, List.set_cons_succ]
          refine wpAnyF_take (i := 2) (oi := _) (v := ?v24) rfl (by kernel_rfl) (by kernel_rfl) (by kernel_rfl) (by kernel_rfl) (by kernel_rfl) (by kernel_rfl) (by kernel_rfl) (by kernel_rfl) (fun _ _ _ h => h) (Or.inl ⟨by rfl, ?hy24⟩) (by assumption) ?rest24
          case hy24 => (intro w hSw; (try dsimp only at hSw); go_simp; try (with_reducible rfl))
          try simp only [Act.put, List.setIfInBounds_toArray, List.set_cons_zero, List.set_cons_succ]
          refine wpAnyF_take (i := 3) (oi := _) (v := ?v25) rfl (by kernel_rfl) (by kernel_rfl) (by kernel_rfl) (by kernel_rfl) (by kernel_rfl) (by kernel_rfl) (by kernel_rfl) (by kernel_rfl) (fun _ _ _ h => h) (Or.inl ⟨by rfl, ?hy25⟩) (by assumption) ?rest25
          case hy25 => (intro w hSw; (try dsimp only at hSw); go_simp; try (with_reducible rfl))
          try simp only [Act.put, List.setIfInBounds_toArray, List.set_cons_zero, List.set_cons_succ]
          refine wpAnyF_take (i := 4) (oi := _) (v := ?v26) rfl (by kernel_rfl) (by kernel_rfl) (by kernel_rfl) (by kernel_rfl) (by kernel_rfl) (by kernel_rfl) (by kernel_rfl) (by kernel_rfl) (fun _ _ _ h => h) (Or.inl ⟨by rfl, ?hy26⟩) (by assumption) ?rest26
          case hy26 => (intro w hSw; (try dsimp only at hSw); go_simp; try (with_reducible rfl))
          try simp only [Act.put, List.setIfInBounds_toArray, List.set_cons_zero, List.set_cons_succ]
          refine wpAnyF_take (i := 5) (oi := _) (v := ?v27) rfl (by kernel_rfl) (by kernel_rfl) (by kernel_rfl) (by kernel_rfl) (by kernel_rfl) (by kernel_rfl) (by kernel_rfl) (by kernel_rfl) (fun _ _ _ h => h) (Or.inl ⟨by rfl, ?hy27⟩) (by assumption) ?rest27
          case hy27 => (intro w hSw; (try dsimp only at hSw); go_simp; try (with_reducible rfl))
          try simp only [Act.put, List.setIfInBounds_toArray, List.set_cons_zero, List.set_cons_succ]
          refine wpAnyF_two (i := 6) (j := 11) (o := _) (o' := _) (by kernel_rfl) rfl rfl (fun KA28 hKA28 => ?_) (fun KB28 hKB28 => ?_)
          · skip
            go_simp
            go_at_call 20; (with_reducible refine (HWI.out _ HV.out.drew).mono ?_); rintro e wW ⟨cc, vW, rfl, hcut, how, hbW⟩; obtain ⟨aW, cW, rfl, hlW⟩ := (sliceOf_own how).set; have HWW := Lib.hid (bel_go HV.out.drew hbW); have HBW := Lib.hid hbW; have hiw := (fun (X : World) (h : Below wW.heap.size wW X) => Inductive_any x aW cW (wthL (rw_ ls k) p cc) X (HTK.out X (bel_go HWW.out h)) (hlW.to h h.size)); rw [(HFO.out.max k p cc hlt hp0 hp1 hpn hcut).1, (HFO.out.max k p cc hlt hp0 hp1 hpn hcut).2] at hiw; have HIW := Lib.hid hiw; clear hiw hcut how hbW hlW
            refine hKA28.out _ _ ?_ (fun hHeld => ?_)
            · exact HSO.out _ HWW.out
            clear hKA28 KA28
            try simp only [Act.put, List.setIfInBounds_toArray, List.set_cons_zero, List.set_cons_succ]
            refine wpAnyF_two (i := 7) (j := 11) (o := _) (o' := _) (by kernel_rfl) rfl rfl (fun KA14 hKA14 => ?_) (fun KB14 hKB14 => ?_)
            · skip
              go_simp
              go_at_call 10; (with_reducible refine (HIW.out _ (Below.refl _ _)).mono ?_); rintro e wJ ⟨rfl, hbJ⟩; have HWJ := Lib.hid (bel_go (bel_go HWW.out (Below.refl _ _)) hbJ)
              refine hKA14.out _ _ ?_ (fun hHeld => ?_)
              · exact HSO.out _ HWJ.out
              clear hKA14 KA14
              try simp only [Act.put, List.setIfInBounds_toArray, List.set_cons_zero, List.set_cons_succ]
              refine wpAnyF_take (i := 8) (oi := _) (v := ?v2) rfl (by kernel_rfl) (by kernel_rfl) (by kernel_rfl) (by kernel_rfl) (by kernel_rfl) (by kernel_rfl) (by kernel_rfl) (by kernel_rfl) (fun _ _ _ h => h) (Or.inl ⟨by rfl, ?hy2⟩) (by assumption) ?rest2
              case hy2 => (intro w hSw; (try dsimp only at hSw); go_simp; try (with_reducible rfl))
              try simp only [Act.put, List.setIfInBounds_toArray, List.set_cons_zero, List.set_cons_succ]
              refine wpAnyF_take (i := 9) (oi := _) (v := ?v3) rfl (by kernel_rfl) (by kernel_rfl) (by kernel_rfl) (by kernel_rfl) (by kernel_rfl) (by kernel_rfl) (by kernel_rfl) (by kernel_rfl) (fun _ _ _ h => h) (Or.inl ⟨by rfl, ?hy3⟩) (by assumption) ?rest3
              case hy3 => (intro w hSw; (try dsimp only at hSw); go_simp; try (with_reducible rfl))
              try simp only [Act.put, List.setIfInBounds_toArray, List.set_cons_zero, List.set_cons_succ]
              refine wpAnyF_take (i := 10) (oi := _) (v := ?v4) rfl (by kernel_rfl) (by kernel_rfl) (by kernel_rfl) (by kernel_rfl) (by kernel_rfl) (by kernel_rfl) (by kernel_rfl) (by kernel_rfl) (fun _ _ _ h => h) (Or.inl ⟨by rfl, ?hy4⟩) (by assumption) ?rest4
              case hy4 => (intro w hSw; (try dsimp only at hSw); go_simp; try (with_reducible rfl))
              try simp only [Act.put, List.setIfInBounds_toArray, List.set_cons_zero, List.set_cons_succ]
              refine wpAnyF_one (i := 11) (o := _) (by kernel_rfl) rfl (fun K5 hK5 => ?_)
              go_simp
              refine hK5.out _ _ ?_ (fun hHeld => ?_)
              · exact HSO.out _ (bel_go HWJ.out (al_b wJ (.cells #[.int .i64 0, .int .i64 0] 27)))
              clear hK5 K5
              try simp only [Act.put, List.setIfInBounds_toArray, List.set_cons_zero, List.set_cons_succ]
              refine wpAnyF_take (i := 12) (oi := _) (v := ?v6) rfl (by kernel_rfl) (by kernel_rfl) (by kernel_rfl) (by kernel_rfl) (by kernel_rfl) (by kernel_rfl) (by kernel_rfl) (by kernel_rfl) (fun _ _ _ h => h) (Or.inl ⟨by rfl, ?hy6⟩) (by assumption) ?rest6
              case hy6 => (intro w hSw; (try dsimp only at hSw); go_simp; try (with_reducible rfl))
              try simp only [Act.put, List.setIfInBounds_toArray, List.set_cons_zero, List.set_cons_succ]
              refine wpAnyF_end (o := _) (by kernel_rfl) rfl (by kernel_rfl) (fun K7 hK7 => ?_)
              go_simp
              refine hK7.out _ _ ?_
              clear hK7 K7
              try simp only [Act.put, List.setIfInBounds_toArray, List.set_cons_zero, List.set_cons_succ]
              have HV2 := Lib.hid (bel_go HWJ.out (al_b wJ (.cells #[.int .i64 0, .int .i64 0] 27)))
              have HTF2 := Lib.hid (two_new wJ (.int .i64 0) (.int .i64 0) 27)
              generalize hV2 : wJ.alloc (.cells #[.int .i64 0, .int .i64 0] 27) = V2 at HV2 HTF2 ⊢
              generalize hgf2 : wJ.heap.size = gf2 at HTF2 ⊢
              clear hV2
              obtain ⟨_, j0, j1, _, _⟩ := HTF2.out
              go_wp2
              clear j0 j1 HTF2
              clear t0 t1 t2 t3 k0 k1 hcv
              go_loopw [12] (fun j wr => ∃ q : Nat, q ≤ ls.length ∧ j = .int .i64 q ∧ Below wo.heap.size wo wr) (fun j _ => ls.length - (intOf j).toNat)
              case atStart => exact ⟨0, by omega, rfl, HV2.out⟩
              case round =>
                obtain ⟨q, hq, rfl, hbq⟩ := hrel
                have HBQ := Lib.hid hbq
                have HW2 := Lib.hid (HB.out.trans (hbq.mono HB.out.size))
                clear hbq
                have hP := Lib.hid (HAL.out _ HW2.out)
                by_cases hql : q < ls.length
                case neg =>
                  have hge : ¬ ((q : Int) < ls.length) := by omega
                  go_wp2
                  go_roundw
                  case rel => exact ⟨k + 1, by omega, by go_num, HW2.out⟩
                  case measure => simp [intOf]; omega
                have hck := HCL.out _ HBQ.out
                obtain ⟨b', o', aq, cq, e', _, hcq, hlq⟩ := (show Rws _ _ (some ⟨bL, oL, none⟩) ls from hP.out (rwsS (some ⟨bL, oL, none⟩) ls) (by simp)).at_ hql
                cases e'
                by_cases hqk : q = k
                · subst hqk
                  have dne : ((q : Int) != (q : Int)) = false := by simp
                  have dne2 : ((q : Int) == (q : Int)) = true := by simp
                  clear hlq
                  go_wp2
                  go_quiet (first | (go_at_call 21; (with_reducible refine quiet_same (HSU.out _))))
                  go_wp2
                  go_roundw
                  case rel => exact ⟨q + 1, by omega, by go_num, belowN HBQ.out _⟩
                  case measure => simp [intOf]; omega
                · have dne : ((q : Int) != (k : Int)) = true := by simp; omega
                  have dne2 : ((q : Int) == (k : Int)) = false := by simp; omega
                  have hsu := fun n : Nat => subset_any ak aq ck cq (rw_ ls k) (rw_ ls q) (wr.drewN n) (HLST.out (wr.drewN n) (belowN HBQ.out n)).nums (hlq.to (belowN (Below.refl wr.heap.size wr) n) (belowN (Below.refl wr.heap.size wr) n).size).nums (HLST.out (wr.drewN n) (belowN HBQ.out n)).len hlq.len
                  rw [HFO.out.anti k q hlt hql hqk] at hsu
                  have HSU := Lib.hid hsu
                  clear hsu hlq
                  go_wp2
                  go_quiet (first | (go_at_call 21; (with_reducible refine quiet_same (HSU.out _))))
                  go_wp2
                  go_roundw
                  case rel => exact ⟨q + 1, by omega, by go_num, belowN HBQ.out _⟩
                  case measure => simp [intOf]; omega
            · skip
              go_simp
              refine hKB14.out _ _ ?_ (fun hHeld => ?_)
              · exact HSO.out _ (bel_go HWW.out (al_b wW (.cells #[.int .i64 0, .int .i64 0] 27)))
              clear hKB14 KB14
              try simp only [Act.put, List.setIfInBounds_toArray, List.set_cons_zero, List.set_cons_succ]
              refine wpAnyF_one (i := 7) (o := _) (by kernel_rfl) rfl (fun K8 hK8 => ?_)
              go_simp
              go_at_call 10; (with_reducible refine (HIW.out _ (al_b wW (.cells #[.int .i64 0, .int .i64 0] 27))).mono ?_); rintro e wJ ⟨rfl, hbJ⟩; have HWJ := Lib.hid (bel_go (bel_go HWW.out (al_b wW (.cells #[.int .i64 0, .int .i64 0] 27))) hbJ); have htz := Lib.hid (two_to (two_new wW (.int .i64 0) (.int .i64 0) 27) hbJ); obtain ⟨_, z0, z1, y0, y1⟩ := htz.out; clear hbJ
              refine hK8.out _ _ ?_ (fun hHeld => ?_)
              · exact HSO.out _ HWJ.out
              clear hK8 K8
              try simp only [Act.put, List.setIfInBounds_toArray, List.set_cons_zero, List.set_cons_succ]
              refine wpAnyF_take (i := 8) (oi := _) (v := ?v9) rfl (by kernel_rfl) (by kernel_rfl) (by kernel_rfl) (by kernel_rfl) (by kernel_rfl) (by kernel_rfl) (by kernel_rfl) (by kernel_rfl) (fun _ _ _ h => h) (Or.inl ⟨by rfl, ?hy9⟩) (by assumption) ?rest9
              case hy9 => (intro w hSw; (try dsimp only at hSw); go_simp; try (with_reducible rfl))
              try simp only [Act.put, List.setIfInBounds_toArray, List.set_cons_zero, List.set_cons_succ]
              refine wpAnyF_take (i := 9) (oi := _) (v := ?v10) rfl (by kernel_rfl) (by kernel_rfl) (by kernel_rfl) (by kernel_rfl) (by kernel_rfl) (by kernel_rfl) (by kernel_rfl) (by kernel_rfl) (fun _ _ _ h => h) (Or.inl ⟨by rfl, ?hy10⟩) (by assumption) ?rest10
              case hy10 => (intro w hSw; (try dsimp only at hSw); go_simp; try (with_reducible rfl))
              try simp only [Act.put, List.setIfInBounds_toArray, List.set_cons_zero, List.set_cons_succ]
              refine wpAnyF_take (i := 10) (oi := _) (v := ?v11) rfl (by kernel_rfl) (by kernel_rfl) (by kernel_rfl) (by kernel_rfl) (by kernel_rfl) (by kernel_rfl) (by kernel_rfl) (by kernel_rfl) (fun _ _ _ h => h) (Or.inl ⟨by rfl, ?hy11⟩) (by assumption) ?rest11
              case hy11 => (intro w hSw; (try dsimp only at hSw); go_simp; try (with_reducible rfl))
              try simp only [Act.put, List.setIfInBounds_toArray, List.set_cons_zero, List.set_cons_succ]
              refine wpAnyF_take (i := 12) (oi := _) (v := ?v12) rfl (by kernel_rfl) (by kernel_rfl) (by kernel_rfl) (by kernel_rfl) (by kernel_rfl) (by kernel_rfl) (by kernel_rfl) (by kernel_rfl) (fun _ _ _ h => h) (Or.inl ⟨by rfl, ?hy12⟩) (by assumption) ?rest12
              case hy12 => (intro w hSw; (try dsimp only at hSw); go_simp; try (with_reducible rfl))
              try simp only [Act.put, List.setIfInBounds_toArray, List.set_cons_zero, List.set_cons_succ]
              refine wpAnyF_end (o := _) (by kernel_rfl) rfl (by kernel_rfl) (fun K13 hK13 => ?_)
              go_simp
              refine hK13.out _ _ ?_
              clear hK13 K13
              try simp only [Act.put, List.setIfInBounds_toArray, List.set_cons_zero, List.set_cons_succ]
              have HV2 := Lib.hid ((HWJ.out.setCell (p := ⟨wW.heap.size, 0, none⟩) HWW.out.size (.int .i64 0)).setCell (p := ⟨wW.heap.size, 1, none⟩) HWW.out.size (.int .i64 0))
              have HTF2 := Lib.hid (htz.out.set (.int .i64 0) (.int .i64 0))
              generalize hV2 : (wJ.setCell ⟨wW.heap.size, 0, none⟩ (.int .i64 0)).setCell ⟨wW.heap.size, 1, none⟩ (.int .i64 0) = V2 at HV2 HTF2 ⊢
              generalize hgf2 : wW.heap.size = gf2 at HTF2 ⊢
              clear hV2
              obtain ⟨_, j0, j1, _, _⟩ := HTF2.out
              go_wp2
              clear j0 j1 HTF2
              clear t0 t1 t2 t3 k0 k1 hcv
              go_loopw [12] (fun j wr => ∃ q : Nat, q ≤ ls.length ∧ j = .int .i64 q ∧ Below wo.heap.size wo wr) (fun j _ => ls.length - (intOf j).toNat)
              case atStart => exact ⟨0, by omega, rfl, HV2.out⟩
              case round =>
                obtain ⟨q, hq, rfl, hbq⟩ := hrel
                have HBQ := Lib.hid hbq
                have HW2 := Lib.hid (HB.out.trans (hbq.mono HB.out.size))
                clear hbq
                have hP := Lib.hid (HAL.out _ HW2.out)
                by_cases hql : q < ls.length
                case neg =>
                  have hge : ¬ ((q : Int) < ls.length) := by omega
                  go_wp2
                  go_roundw
                  case rel => exact ⟨k + 1, by omega, by go_num, HW2.out⟩
                  case measure => simp [intOf]; omega
                have hck := HCL.out _ HBQ.out
                obtain ⟨b', o', aq, cq, e', _, hcq, hlq⟩ := (show Rws _ _ (some ⟨bL, oL, none⟩) ls from hP.out (rwsS (some ⟨bL, oL, none⟩) ls) (by simp)).at_ hql
                cases e'
                by_cases hqk : q = k
                · subst hqk
                  have dne : ((q : Int) != (q : Int)) = false := by simp
                  have dne2 : ((q : Int) == (q : Int)) = true := by simp
                  clear hlq
                  go_wp2
                  go_quiet (first | (go_at_call 21; (with_reducible refine quiet_same (HSU.out _))))
                  go_wp2
                  go_roundw
                  case rel => exact ⟨q + 1, by omega, by go_num, belowN HBQ.out _⟩
                  case measure => simp [intOf]; omega
                · have dne : ((q : Int) != (k : Int)) = true := by simp; omega
                  have dne2 : ((q : Int) == (k : Int)) = false := by simp; omega
                  have hsu := fun n : Nat => subset_any ak aq ck cq (rw_ ls k) (rw_ ls q) (wr.drewN n) (HLST.out (wr.drewN n) (belowN HBQ.out n)).nums (hlq.to (belowN (Below.refl wr.heap.size wr) n) (belowN (Below.refl wr.heap.size wr) n).size).nums (HLST.out (wr.drewN n) (belowN HBQ.out n)).len hlq.len
                  rw [HFO.out.anti k q hlt hql hqk] at hsu
                  have HSU := Lib.hid hsu
                  clear hsu hlq
                  go_wp2
                  go_quiet (first | (go_at_call 21; (with_reducible refine quiet_same (HSU.out _))))
                  go_wp2
                  go_roundw
                  case rel => exact ⟨q + 1, by omega, by go_num, belowN HBQ.out _⟩
                  case measure => simp [intOf]; omega
          · skip
            go_simp
            refine hKB28.out _ _ ?_ (fun hHeld => ?_)
            · exact HSO.out _ (bel_go HV.out (al_b V (.cells #[.int .i64 0, .int .i64 0] 27))).drew
            clear hKB28 KB28
            try simp only [Act.put, List.setIfInBounds_toArray, List.set_cons_zero, List.set_cons_succ]
            refine wpAnyF_one (i := 6) (o := _) (by kernel_rfl) rfl (fun K15 hK15 => ?_)
            go_simp
            go_at_call 20; (with_reducible refine (HWI.out _ (bel_go HV.out (al_b V (.cells #[.int .i64 0, .int .i64 0] 27))).drew).mono ?_); rintro e wW ⟨cc, vW, rfl, hcut, how, hbW⟩; obtain ⟨aW, cW, rfl, hlW⟩ := (sliceOf_own how).set; have HWW := Lib.hid (bel_go (bel_go HV.out (al_b V (.cells #[.int .i64 0, .int .i64 0] 27))).drew hbW); have HBW := Lib.hid hbW; have hiw := (fun (X : World) (h : Below wW.heap.size wW X) => Inductive_any x aW cW (wthL (rw_ ls k) p cc) X (HTK.out X (bel_go HWW.out h)) (hlW.to h h.size)); rw [(HFO.out.max k p cc hlt hp0 hp1 hpn hcut).1, (HFO.out.max k p cc hlt hp0 hp1 hpn hcut).2] at hiw; have HIW := Lib.hid hiw; clear hiw hcut how hbW hlW; have htz0 := Lib.hid (two_to (two1 (two_new V (.int .i64 0) (.int .i64 0) 27)) HBW.out)
            refine hK15.out _ _ ?_ (fun hHeld => ?_)
            · exact HSO.out _ HWW.out
            clear hK15 K15
            try simp only [Act.put, List.setIfInBounds_toArray, List.set_cons_zero, List.set_cons_succ]
            refine wpAnyF_one (i := 7) (o := _) (by kernel_rfl) rfl (fun K16 hK16 => ?_)
            go_simp
            go_at_call 10; (with_reducible refine (HIW.out _ (Below.refl _ _)).mono ?_); rintro e wJ ⟨rfl, hbJ⟩; have HWJ := Lib.hid (bel_go (bel_go HWW.out (Below.refl _ _)) hbJ); have htz := Lib.hid (two_to htz0.out hbJ); obtain ⟨_, z0, z1, y0, y1⟩ := htz.out; clear hbJ
            refine hK16.out _ _ ?_ (fun hHeld => ?_)
            · exact HSO.out _ HWJ.out
            clear hK16 K16
            try simp only [Act.put, List.setIfInBounds_toArray, List.set_cons_zero, List.set_cons_succ]
            refine wpAnyF_take (i := 8) (oi := _) (v := ?v17) rfl (by kernel_rfl) (by kernel_rfl) (by kernel_rfl) (by kernel_rfl) (by kernel_rfl) (by kernel_rfl) (by kernel_rfl) (by kernel_rfl) (fun _ _ _ h => h) (Or.inl ⟨by rfl, ?hy17⟩) (by assumption) ?rest17
            case hy17 => (intro w hSw; (try dsimp only at hSw); go_simp; try (with_reducible rfl))
            try simp only [Act.put, List.setIfInBounds_toArray, List.set_cons_zero, List.set_cons_succ]
            refine wpAnyF_take (i := 9) (oi := _) (v := ?v18) rfl (by kernel_rfl) (by kernel_rfl) (by kernel_rfl) (by kernel_rfl) (by kernel_rfl) (by kernel_rfl) (by kernel_rfl) (by kernel_rfl) (fun _ _ _ h => h) (Or.inl ⟨by rfl, ?hy18⟩) (by assumption) ?rest18
            case hy18 => (intro w hSw; (try dsimp only at hSw); go_simp; try (with_reducible rfl))
            try simp only [Act.put, List.setIfInBounds_toArray, List.set_cons_zero, List.set_cons_succ]
            refine wpAnyF_take (i := 10) (oi := _) (v := ?v19) rfl (by kernel_rfl) (by kernel_rfl) (by kernel_rfl) (by kernel_rfl) (by kernel_rfl) (by kernel_rfl) (by kernel_rfl) (by kernel_rfl) (fun _ _ _ h => h) (Or.inl ⟨by rfl, ?hy19⟩) (by assumption) ?rest19
            case hy19 => (intro w hSw; (try dsimp only at hSw); go_simp; try (with_reducible rfl))
            try simp only [Act.put, List.setIfInBounds_toArray, List.set_cons_zero, List.set_cons_succ]
            refine wpAnyF_take (i := 12) (oi := _) (v := ?v20) rfl (by kernel_rfl) (by kernel_rfl) (by kernel_rfl) (by kernel_rfl) (by kernel_rfl) (by kernel_rfl) (by kernel_rfl) (by kernel_rfl) (fun _ _ _ h => h) (Or.inl ⟨by rfl, ?hy20⟩) (by assumption) ?rest20
            case hy20 => (intro w hSw; (try dsimp only at hSw); go_simp; try (with_reducible rfl))
            try simp only [Act.put, List.setIfInBounds_toArray, List.set_cons_zero, List.set_cons_succ]
            refine wpAnyF_end (o := _) (by kernel_rfl) rfl (by kernel_rfl) (fun K21 hK21 => ?_)
            go_simp
            refine hK21.out _ _ ?_
            clear hK21 K21
            try simp only [Act.put, List.setIfInBounds_toArray, List.set_cons_zero, List.set_cons_succ]
            have HV2 := Lib.hid ((HWJ.out.setCell (p := ⟨V.heap.size, 0, none⟩) HV.out.size (.int .i64 0)).setCell (p := ⟨V.heap.size, 1, none⟩) HV.out.size (.int .i64 0))
            have HTF2 := Lib.hid (htz.out.set (.int .i64 0) (.int .i64 0))
            generalize hV2 : (wJ.setCell ⟨V.heap.size, 0, none⟩ (.int .i64 0)).setCell ⟨V.heap.size, 1, none⟩ (.int .i64 0) = V2 at HV2 HTF2 ⊢
            generalize hgf2 : V.heap.size = gf2 at HTF2 ⊢
            clear hV2
            obtain ⟨_, j0, j1, _, _⟩ := HTF2.out
            go_wp2
            clear j0 j1 HTF2
            clear t0 t1 t2 t3 k0 k1 hcv
            go_loopw [12] (fun j wr => ∃ q : Nat, q ≤ ls.length ∧ j = .int .i64 q ∧ Below wo.heap.size wo wr) (fun j _ => ls.length - (intOf j).toNat)
            case atStart => exact ⟨0, by omega, rfl, HV2.out⟩
            case round =>
              obtain ⟨q, hq, rfl, hbq⟩ := hrel
              have HBQ := Lib.hid hbq
              have HW2 := Lib.hid (HB.out.trans (hbq.mono HB.out.size))
              clear hbq
              have hP := Lib.hid (HAL.out _ HW2.out)
              by_cases hql : q < ls.length
              case neg =>
                have hge : ¬ ((q : Int) < ls.length) := by omega
                go_wp2
                go_roundw
                case rel => exact ⟨k + 1, by omega, by go_num, HW2.out⟩
                case measure => simp [intOf]; omega
              have hck := HCL.out _ HBQ.out
              obtain ⟨b', o', aq, cq, e', _, hcq, hlq⟩ := (show Rws _ _ (some ⟨bL, oL, none⟩) ls from hP.out (rwsS (some ⟨bL, oL, none⟩) ls) (by simp)).at_ hql
              cases e'
              by_cases hqk : q = k
              · subst hqk
                have dne : ((q : Int) != (q : Int)) = false := by simp
                have dne2 : ((q : Int) == (q : Int)) = true := by simp
                clear hlq
                go_wp2
                go_quiet (first | (go_at_call 21; (with_reducible refine quiet_same (HSU.out _))))
                go_wp2
                go_roundw
                case rel => exact ⟨q + 1, by omega, by go_num, belowN HBQ.out _⟩
                case measure => simp [intOf]; omega
              · have dne : ((q : Int) != (k : Int)) = true := by simp; omega
                have dne2 : ((q : Int) == (k : Int)) = false := by simp; omega
                have hsu := fun n : Nat => subset_any ak aq ck cq (rw_ ls k) (rw_ ls q) (wr.drewN n) (HLST.out (wr.drewN n) (belowN HBQ.out n)).nums (hlq.to (belowN (Below.refl wr.heap.size wr) n) (belowN (Below.refl wr.heap.size wr) n).size).nums (HLST.out (wr.drewN n) (belowN HBQ.out n)).len hlq.len
                rw [HFO.out.anti k q hlt hql hqk] at hsu
                have HSU := Lib.hid hsu
                clear hsu hlq
                go_wp2
                go_quiet (first | (go_at_call 21; (with_reducible refine quiet_same (HSU.out _))))
                go_wp2
                go_roundw
                case rel => exact ⟨q + 1, by omega, by go_num, belowN HBQ.out _⟩
                case measure => simp [intOf]; omega
        · rw [hhs] at HHS
          go_wp2_with (first | (go_at_call 18; refine (in_no2 hin _).mono ?_; rintro e w' ⟨rfl, rfl⟩) | (go_at_call 19; (with_reducible refine HHS.out.mono ?_); rintro e w' ⟨rfl, rfl⟩))
          clear t0 t1 t2 t3 k0 k1 hcv
          go_loopw [12] (fun j wr => ∃ q : Nat, q ≤ ls.length ∧ j = .int .i64 q ∧ Below wo.heap.size wo wr) (fun j _ => ls.length - (intOf j).toNat)
          case atStart => exact ⟨0, by omega, rfl, HV.out⟩
          case round =>
            obtain ⟨q, hq, rfl, hbq⟩ := hrel
            have HBQ := Lib.hid hbq
            have HW2 := Lib.hid (HB.out.trans (hbq.mono HB.out.size))
            clear hbq
            have hP := Lib.hid (HAL.out _ HW2.out)
            by_cases hql : q < ls.length
            case neg =>
              have hge : ¬ ((q : Int) < ls.length) := by omega
              go_wp2
              go_roundw
              case rel => exact ⟨k + 1, by omega, by go_num, HW2.out⟩
              case measure => simp [intOf]; omega
            have hck := HCL.out _ HBQ.out
            obtain ⟨b', o', aq, cq, e', _, hcq, hlq⟩ := (show Rws _ _ (some ⟨bL, oL, none⟩) ls from hP.out (rwsS (some ⟨bL, oL, none⟩) ls) (by simp)).at_ hql
            cases e'
            by_cases hqk : q = k
            · subst hqk
              have dne : ((q : Int) != (q : Int)) = false := by simp
              have dne2 : ((q : Int) == (q : Int)) = true := by simp
              clear hlq
              go_wp2
              go_quiet (first | (go_at_call 21; (with_reducible refine quiet_same (HSU.out _))))
              go_wp2
              go_roundw
              case rel => exact ⟨q + 1, by omega, by go_num, belowN HBQ.out _⟩
              case measure => simp [intOf]; omega
            · have dne : ((q : Int) != (k : Int)) = true := by simp; omega
              have dne2 : ((q : Int) == (k : Int)) = false := by simp; omega
              have hsu := fun n : Nat => subset_any ak aq ck cq (rw_ ls k) (rw_ ls q) (wr.drewN n) (HLST.out (wr.drewN n) (belowN HBQ.out n)).nums (hlq.to (belowN (Below.refl wr.heap.size wr) n) (belowN (Below.refl wr.heap.size wr) n).size).nums (HLST.out (wr.drewN n) (belowN HBQ.out n)).len hlq.len
              rw [HFO.out.anti k q hlt hql hqk] at hsu
              have HSU := Lib.hid hsu
              clear hsu hlq
              go_wp2
              go_quiet (first | (go_at_call 21; (with_reducible refine quiet_same (HSU.out _))))
              go_wp2
              go_roundw
              case rel => exact ⟨q + 1, by omega, by go_num, belowN HBQ.out _⟩
              case measure => simp [intOf]; omega
    · skip
      go_simp
      refine hKB72.out _ _ ?_ (fun hHeld => ?_)
      · exact HSO.out _ (al_b _ _).drew
      clear hKB72 KB72
      try simp only [Act.put, List.setIfInBounds_toArray, List.set_cons_zero, List.set_cons_succ]
      refine wpAnyF_one (i := 5) (o := _) (by kernel_rfl) rfl (fun K62 hK62 => ?_)
      go_simp
      go_at_call 10; (with_reducible refine (HIN.out _ (al_b wo (.cells #[.int .i64 0, .int .i64 0] 27)).drew).mono ?_); rintro e wI ⟨rfl, hbI⟩; have HWA := Lib.hid (bel_go (al_b wo (.cells #[.int .i64 0, .int .i64 0] 27)).drew hbI); have htz := Lib.hid (two_to (two1 (two_new wo (.int .i64 0) (.int .i64 0) 27)) hbI); obtain ⟨_, z0, z1, y0, y1⟩ := htz.out; clear hbI
      refine hK62.out _ _ ?_ (fun hHeld => ?_)
      · exact HSO.out _ HWA.out
      clear hK62 K62
      try simp only [Act.put, List.setIfInBounds_toArray, List.set_cons_zero, List.set_cons_succ]
      refine wpAnyF_take (i := 6) (oi := _) (v := ?v63) rfl (by kernel_rfl) (by kernel_rfl) (by kernel_rfl) (by kernel_rfl) (by kernel_rfl) (by kernel_rfl) (by kernel_rfl) (by kernel_rfl) (fun _ _ _ h => h) (Or.inl ⟨by rfl, ?hy63⟩) (by assumption) ?rest63
      case hy63 => (intro w hSw; (try dsimp only at hSw); go_simp; try (with_reducible rfl))
      try simp only [Act.put, List.setIfInBounds_toArray, List.set_cons_zero, List.set_cons_succ]
      refine wpAnyF_take (i := 7) (oi := _) (v := ?v64) rfl (by kernel_rfl) (by kernel_rfl) (by kernel_rfl) (by kernel_rfl) (by kernel_rfl) (by kernel_rfl) (by kernel_rfl) (by kernel_rfl) (fun _ _ _ h => h) (Or.inl ⟨by rfl, ?hy64⟩) (by assumption) ?rest64
      case hy64 => (intro w hSw; (try dsimp only at hSw); go_simp; try (with_reducible rfl))
      try simp only [Act.put, List.setIfInBounds_toArray, List.set_cons_zero, List.set_cons_succ]
      refine wpAnyF_take (i := 8) (oi := _) (v := ?v65) rfl (by kernel_rfl) (by kernel_rfl) (by kernel_rfl) (by kernel_rfl) (by kernel_rfl) (by kernel_rfl) (by kernel_rfl) (by kernel_rfl) (fun _ _ _ h => h) (Or.inl ⟨by rfl, ?hy65⟩) (by assumption) ?rest65
      case hy65 => (intro w hSw; (try dsimp only at hSw); go_simp; try (with_reducible rfl))
      try simp only [Act.put, List.setIfInBounds_toArray, List.set_cons_zero, List.set_cons_succ]
      refine wpAnyF_take (i := 10) (oi := _) (v := ?v66) rfl (by kernel_rfl) (by kernel_rfl) (by kernel_rfl) (by kernel_rfl) (by kernel_rfl) (by kernel_rfl) (by kernel_rfl) (by kernel_rfl) (fun _ _ _ h => h) (Or.inl ⟨by rfl, ?hy66⟩) (by assumption) ?rest66
      case hy66 => (intro w hSw; (try dsimp only at hSw); go_simp; try (with_reducible rfl))
      try simp only [Act.put, List.setIfInBounds_toArray, List.set_cons_zero, List.set_cons_succ]
      refine wpAnyF_end (o := _) (by kernel_rfl) rfl (by kernel_rfl) (fun K34 hK34 => ?_)
      go_simp
      refine hK34.out _ _ ?_
      clear hK34 K34
      try simp only [Act.put, List.setIfInBounds_toArray, List.set_cons_zero, List.set_cons_succ]
      have HV := Lib.hid ((HWA.out.setCell (p := ⟨wo.heap.size, 0, none⟩) (Nat.le_refl _) (.int .i64 0)).setCell (p := ⟨wo.heap.size, 1, none⟩) (Nat.le_refl _) (.int .i64 0))
      have HTF := Lib.hid (htz.out.set (.int .i64 0) (.int .i64 0))
      clear HWA htz z0 z1 y0 y1
      generalize hV : (wI.setCell ⟨wo.heap.size, 0, none⟩ (.int .i64 0)).setCell ⟨wo.heap.size, 1, none⟩ (.int .i64 0) = V at HV HTF ⊢
      generalize hgf : wo.heap.size = gf at HTF ⊢
      clear hV
      have HBV := Lib.hid (HB.out.trans (HV.out.mono HB.out.size))
      have hP := Lib.hid (HAL.out _ HBV.out)
      obtain ⟨_, t0, t1, t2, t3⟩ := (show TBox _ w.heap.size x from hP.out (boxS w.heap.size x) (by simp))
      obtain ⟨_, k0, k1, _, _⟩ := HTF.out
      have hcv := HCL.out _ HV.out
      have hl2 := HFO.out.len k hlt
      have hl24 := isS_len (n := 24) (HFO.out.set k hlt)
      have dl2 : decide (((rw_ ls k).length : Int) < 2) = false := decide_eq_false (by omega)
      have HHS := Lib.hid (has_any ak ck (rw_ ls k) p V (HLST.out _ HV.out).nums (HLST.out _ HV.out).len)
      cases hin : inB p 0 (x.n - 1)
      · go_wp2_with (first | (go_at_call 18; refine (in_no2 hin _).mono ?_; rintro e w' ⟨rfl, rfl⟩))
        clear t0 t1 t2 t3 k0 k1 hcv
        go_loopw [12] (fun j wr => ∃ q : Nat, q ≤ ls.length ∧ j = .int .i64 q ∧ Below wo.heap.size wo wr) (fun j _ => ls.length - (intOf j).toNat)
        case atStart => exact ⟨0, by omega, rfl, HV.out⟩
        case round =>
          obtain ⟨q, hq, rfl, hbq⟩ := hrel
          have HBQ := Lib.hid hbq
          have HW2 := Lib.hid (HB.out.trans (hbq.mono HB.out.size))
          clear hbq
          have hP := Lib.hid (HAL.out _ HW2.out)
          by_cases hql : q < ls.length
          case neg =>
            have hge : ¬ ((q : Int) < ls.length) := by omega
            go_wp2
            go_roundw
            case rel => exact ⟨k + 1, by omega, by go_num, HW2.out⟩
            case measure => simp [intOf]; omega
          have hck := HCL.out _ HBQ.out
          obtain ⟨b', o', aq, cq, e', _, hcq, hlq⟩ := (show Rws _ _ (some ⟨bL, oL, none⟩) ls from hP.out (rwsS (some ⟨bL, oL, none⟩) ls) (by simp)).at_ hql
          cases e'
          by_cases hqk : q = k
          · subst hqk
            have dne : ((q : Int) != (q : Int)) = false := by simp
            have dne2 : ((q : Int) == (q : Int)) = true := by simp
            clear hlq
            go_wp2
            go_quiet (first | (go_at_call 21; (with_reducible refine quiet_same (HSU.out _))))
            go_wp2
            go_roundw
            case rel => exact ⟨q + 1, by omega, by go_num, belowN HBQ.out _⟩
            case measure => simp [intOf]; omega
          · have dne : ((q : Int) != (k : Int)) = true := by simp; omega
            have dne2 : ((q : Int) == (k : Int)) = false := by simp; omega
            have hsu := fun n : Nat => subset_any ak aq ck cq (rw_ ls k) (rw_ ls q) (wr.drewN n) (HLST.out (wr.drewN n) (belowN HBQ.out n)).nums (hlq.to (belowN (Below.refl wr.heap.size wr) n) (belowN (Below.refl wr.heap.size wr) n).size).nums (HLST.out (wr.drewN n) (belowN HBQ.out n)).len hlq.len
            rw [HFO.out.anti k q hlt hql hqk] at hsu
            have HSU := Lib.hid hsu
            clear hsu hlq
            go_wp2
            go_quiet (first | (go_at_call 21; (with_reducible refine quiet_same (HSU.out _))))
            go_wp2
            go_roundw
            case rel => exact ⟨q + 1, by omega, by go_num, belowN HBQ.out _⟩
            case measure => simp [intOf]; omega
      · cases hhs : hasB (rw_ ls k) p
        · rw [hhs] at HHS
          obtain ⟨hp0, hp1'⟩ := inB_iff.1 hin
          have hp1 : p < x.n := by omega
          have hpn : p ∉ rw_ ls k := of_decide_eq_false hhs
          have HTK := Lib.hid (fun (X : World) (h : Below wo.heap.size wo X) => (show TskIn _ _ x from HAL.out _ (HB.out.trans (h.mono HB.out.size)) (tkS x) (by simp)))
          have HWI := Lib.hid (fun (X : World) (h : Below wo.heap.size wo X) => with_any ak ck (rw_ ls k) p X (HLST.out X h) (by omega) hl24 (HFO.out.set k hlt).1 hpn)
          go_wp2_with (first | (go_at_call 18; refine (in_no2 hin _).mono ?_; rintro e w' ⟨rfl, rfl⟩) | (go_at_call 19; (with_reducible refine HHS.out.mono ?_); rintro e w' ⟨rfl, rfl⟩))
          refine wp_region_F (S := (fun V => V.cell? ⟨w.heap.size, 0, none⟩ = some (.int .i64 x.n) ∧ V.cell? ⟨w.heap.size, 1, none⟩ = some (.slice x.ai x.init.length x.ci) ∧ V.cell? ⟨w.heap.size, 2, none⟩ = some (.slice x.ag x.goal.length x.cg) ∧ V.cell? ⟨w.heap.size, 3, none⟩ = some (.slice x.ao x.ops.length x.co) ∧ V.cell? ⟨bL, oL + k, none⟩ = some (.slice ak (rw_ ls k).length ck))) 13 (by kernel_rfl) ?_ (fun hHeld => ?_)
          · exact HSO.out _ HV.out.drew
          refine wpAnyF_take (i := 0) (oi := _) (v := ?v55) rfl (by kernel_rfl) (by kernel_rfl) (by kernel_rfl) (by kernel_rfl) (by kernel_rfl) (by kernel_rfl) (by kernel_rfl) (by kernel_rfl) (fun _ _ _ h => h) (Or.inl ⟨by rfl, ?hy55⟩) (by assumption) ?rest55
          case hy55 => (intro w hSw; (try dsimp only at hSw); go_simp; try (with_reducible rfl))
          try simp only [Act.put, List.setIfInBounds_toArray, List.set_cons_zero, List.set_cons_succ]
          refine wpAnyF_take (i := 1) (oi := _) (v := ?v56) rfl (by kernel_rfl) (by kernel_rfl) (by kernel_rfl) (by kernel_rfl) (by kernel_rfl) (by kernel_rfl) (by kernel_rfl) (by kernel_rfl) (fun _ _ _ h => h) (Or.inl ⟨by rfl, ?hy56⟩) (by assumption) ?rest56
          case hy56 => (intro w hSw; (try dsimp only at hSw); go_simp; try (with_reducible rfl))
          try simp only [Act.put, List.setIfInBounds_toArray, List.set_cons_zero, List.set_cons_succ]
          refine wpAnyF_take (i := 2) (oi := _) (v := ?v57) rfl (by kernel_rfl) (by kernel_rfl) (by kernel_rfl) (by kernel_rfl) (by kernel_rfl) (by kernel_rfl) (by kernel_rfl) (by kernel_rfl) (fun _ _ _ h => h) (Or.inl ⟨by rfl, ?hy57⟩) (by assumption) ?rest57
          case hy57 => (intro w hSw; (try dsimp only at hSw); go_simp; try (with_reducible rfl))
          try simp only [Act.put, List.setIfInBounds_toArray, List.set_cons_zero, List.set_cons_succ]
          refine wpAnyF_take (i := 3) (oi := _) (v := ?v58) rfl (by kernel_rfl) (by kernel_rfl) (by kernel_rfl) (by kernel_rfl) (by kernel_rfl) (by kernel_rfl) (by kernel_rfl) (by kernel_rfl) (fun _ _ _ h => h) (Or.inl ⟨by rfl, ?hy58⟩) (by assumption) ?rest58
          case hy58 => (intro w hSw; (try dsimp only at hSw); go_simp; try (with_reducible rfl))
          try simp only [Act.put, List.setIfInBounds_toArray, List.set_cons_zero, List.set_cons_succ]
          refine wpAnyF_take (i := 4) (oi := _) (v := ?v59) rfl (by kernel_rfl) (by kernel_rfl) (by kernel_rfl) (by kernel_rfl) (by kernel_rfl) (by kernel_rfl) (by kernel_rfl) (by kernel_rfl) (fun _ _ _ h => h) (Or.inl ⟨by rfl, ?hy59⟩) (by assumption) ?rest59
          case hy59 => (intro w hSw; (try dsimp only at hSw); go_simp; try (with_reducible rfl))
          try simp only [Act.put, List.setIfInBounds_toArray, List.set_cons_zero, List.set_cons_succ]
          refine wpAnyF_take (i := 5) (oi := _) (v := ?v60) rfl (by kernel_rfl) (by kernel_rfl) (by kernel_rfl) (by kernel_rfl) (by kernel_rfl) (by kernel_rfl) (by kernel_rfl) (by kernel_rfl) (fun _ _ _ h => h) (Or.inl ⟨by rfl, ?hy60⟩) (by assumption) ?rest60
          case hy60 => (intro w hSw; (try dsimp only at hSw); go_simp; try (with_reducible rfl))
          try simp only [Act.put, List.setIfInBounds_toArray, List.set_cons_zero, List.set_cons_succ]
          refine wpAnyF_two (i := 6) (j := 11) (o := _) (o' := _) (by kernel_rfl) rfl rfl (fun KA61 hKA61 => ?_) (fun KB61 hKB61 => ?_)
          · skip
            go_simp
            go_at_call 20; (with_reducible refine (HWI.out _ HV.out.drew).mono ?_); rintro e wW ⟨cc, vW, rfl, hcut, how, hbW⟩; obtain ⟨aW, cW, rfl, hlW⟩ := (sliceOf_own how).set; have HWW := Lib.hid (bel_go HV.out.drew hbW); have HBW := Lib.hid hbW; have hiw := (fun (X : World) (h : Below wW.heap.size wW X) => Inductive_any x aW cW (wthL (rw_ ls k) p cc) X (HTK.out X (bel_go HWW.out h)) (hlW.to h h.size)); rw [(HFO.out.max k p cc hlt hp0 hp1 hpn hcut).1, (HFO.out.max k p cc hlt hp0 hp1 hpn hcut).2] at hiw; have HIW := Lib.hid hiw; clear hiw hcut how hbW hlW
            refine hKA61.out _ _ ?_ (fun hHeld => ?_)
            · exact HSO.out _ HWW.out
            clear hKA61 KA61
            try simp only [Act.put, List.setIfInBounds_toArray, List.set_cons_zero, List.set_cons_succ]
            refine wpAnyF_two (i := 7) (j := 11) (o := _) (o' := _) (by kernel_rfl) rfl rfl (fun KA47 hKA47 => ?_) (fun KB47 hKB47 => ?_)
            · skip
              go_simp
              go_at_call 10; (with_reducible refine (HIW.out _ (Below.refl _ _)).mono ?_); rintro e wJ ⟨rfl, hbJ⟩; have HWJ := Lib.hid (bel_go (bel_go HWW.out (Below.refl _ _)) hbJ)
              refine hKA47.out _ _ ?_ (fun hHeld => ?_)
              · exact HSO.out _ HWJ.out
              clear hKA47 KA47
              try simp only [Act.put, List.setIfInBounds_toArray, List.set_cons_zero, List.set_cons_succ]
              refine wpAnyF_take (i := 8) (oi := _) (v := ?v35) rfl (by kernel_rfl) (by kernel_rfl) (by kernel_rfl) (by kernel_rfl) (by kernel_rfl) (by kernel_rfl) (by kernel_rfl) (by kernel_rfl) (fun _ _ _ h => h) (Or.inl ⟨by rfl, ?hy35⟩) (by assumption) ?rest35
              case hy35 => (intro w hSw; (try dsimp only at hSw); go_simp; try (with_reducible rfl))
              try simp only [Act.put, List.setIfInBounds_toArray, List.set_cons_zero, List.set_cons_succ]
              refine wpAnyF_take (i := 9) (oi := _) (v := ?v36) rfl (by kernel_rfl) (by kernel_rfl) (by kernel_rfl) (by kernel_rfl) (by kernel_rfl) (by kernel_rfl) (by kernel_rfl) (by kernel_rfl) (fun _ _ _ h => h) (Or.inl ⟨by rfl, ?hy36⟩) (by assumption) ?rest36
              case hy36 => (intro w hSw; (try dsimp only at hSw); go_simp; try (with_reducible rfl))
              try simp only [Act.put, List.setIfInBounds_toArray, List.set_cons_zero, List.set_cons_succ]
              refine wpAnyF_take (i := 10) (oi := _) (v := ?v37) rfl (by kernel_rfl) (by kernel_rfl) (by kernel_rfl) (by kernel_rfl) (by kernel_rfl) (by kernel_rfl) (by kernel_rfl) (by kernel_rfl) (fun _ _ _ h => h) (Or.inl ⟨by rfl, ?hy37⟩) (by assumption) ?rest37
              case hy37 => (intro w hSw; (try dsimp only at hSw); go_simp; try (with_reducible rfl))
              try simp only [Act.put, List.setIfInBounds_toArray, List.set_cons_zero, List.set_cons_succ]
              refine wpAnyF_one (i := 11) (o := _) (by kernel_rfl) rfl (fun K38 hK38 => ?_)
              go_simp
              refine hK38.out _ _ ?_ (fun hHeld => ?_)
              · exact HSO.out _ (bel_go HWJ.out (al_b wJ (.cells #[.int .i64 0, .int .i64 0] 27)))
              clear hK38 K38
              try simp only [Act.put, List.setIfInBounds_toArray, List.set_cons_zero, List.set_cons_succ]
              refine wpAnyF_take (i := 12) (oi := _) (v := ?v39) rfl (by kernel_rfl) (by kernel_rfl) (by kernel_rfl) (by kernel_rfl) (by kernel_rfl) (by kernel_rfl) (by kernel_rfl) (by kernel_rfl) (fun _ _ _ h => h) (Or.inl ⟨by rfl, ?hy39⟩) (by assumption) ?rest39
              case hy39 => (intro w hSw; (try dsimp only at hSw); go_simp; try (with_reducible rfl))
              try simp only [Act.put, List.setIfInBounds_toArray, List.set_cons_zero, List.set_cons_succ]
              refine wpAnyF_end (o := _) (by kernel_rfl) rfl (by kernel_rfl) (fun K40 hK40 => ?_)
              go_simp
              refine hK40.out _ _ ?_
              clear hK40 K40
              try simp only [Act.put, List.setIfInBounds_toArray, List.set_cons_zero, List.set_cons_succ]
              have HV2 := Lib.hid (bel_go HWJ.out (al_b wJ (.cells #[.int .i64 0, .int .i64 0] 27)))
              have HTF2 := Lib.hid (two_new wJ (.int .i64 0) (.int .i64 0) 27)
              generalize hV2 : wJ.alloc (.cells #[.int .i64 0, .int .i64 0] 27) = V2 at HV2 HTF2 ⊢
              generalize hgf2 : wJ.heap.size = gf2 at HTF2 ⊢
              clear hV2
              obtain ⟨_, j0, j1, _, _⟩ := HTF2.out
              go_wp2
              clear j0 j1 HTF2
              clear t0 t1 t2 t3 k0 k1 hcv
              go_loopw [12] (fun j wr => ∃ q : Nat, q ≤ ls.length ∧ j = .int .i64 q ∧ Below wo.heap.size wo wr) (fun j _ => ls.length - (intOf j).toNat)
              case atStart => exact ⟨0, by omega, rfl, HV2.out⟩
              case round =>
                obtain ⟨q, hq, rfl, hbq⟩ := hrel
                have HBQ := Lib.hid hbq
                have HW2 := Lib.hid (HB.out.trans (hbq.mono HB.out.size))
                clear hbq
                have hP := Lib.hid (HAL.out _ HW2.out)
                by_cases hql : q < ls.length
                case neg =>
                  have hge : ¬ ((q : Int) < ls.length) := by omega
                  go_wp2
                  go_roundw
                  case rel => exact ⟨k + 1, by omega, by go_num, HW2.out⟩
                  case measure => simp [intOf]; omega
                have hck := HCL.out _ HBQ.out
                obtain ⟨b', o', aq, cq, e', _, hcq, hlq⟩ := (show Rws _ _ (some ⟨bL, oL, none⟩) ls from hP.out (rwsS (some ⟨bL, oL, none⟩) ls) (by simp)).at_ hql
                cases e'
                by_cases hqk : q = k
                · subst hqk
                  have dne : ((q : Int) != (q : Int)) = false := by simp
                  have dne2 : ((q : Int) == (q : Int)) = true := by simp
                  clear hlq
                  go_wp2
                  go_quiet (first | (go_at_call 21; (with_reducible refine quiet_same (HSU.out _))))
                  go_wp2
                  go_roundw
                  case rel => exact ⟨q + 1, by omega, by go_num, belowN HBQ.out _⟩
                  case measure => simp [intOf]; omega
                · have dne : ((q : Int) != (k : Int)) = true := by simp; omega
                  have dne2 : ((q : Int) == (k : Int)) = false := by simp; omega
                  have hsu := fun n : Nat => subset_any ak aq ck cq (rw_ ls k) (rw_ ls q) (wr.drewN n) (HLST.out (wr.drewN n) (belowN HBQ.out n)).nums (hlq.to (belowN (Below.refl wr.heap.size wr) n) (belowN (Below.refl wr.heap.size wr) n).size).nums (HLST.out (wr.drewN n) (belowN HBQ.out n)).len hlq.len
                  rw [HFO.out.anti k q hlt hql hqk] at hsu
                  have HSU := Lib.hid hsu
                  clear hsu hlq
                  go_wp2
                  go_quiet (first | (go_at_call 21; (with_reducible refine quiet_same (HSU.out _))))
                  go_wp2
                  go_roundw
                  case rel => exact ⟨q + 1, by omega, by go_num, belowN HBQ.out _⟩
                  case measure => simp [intOf]; omega
            · skip
              go_simp
              refine hKB47.out _ _ ?_ (fun hHeld => ?_)
              · exact HSO.out _ (bel_go HWW.out (al_b wW (.cells #[.int .i64 0, .int .i64 0] 27)))
              clear hKB47 KB47
              try simp only [Act.put, List.setIfInBounds_toArray, List.set_cons_zero, List.set_cons_succ]
              refine wpAnyF_one (i := 7) (o := _) (by kernel_rfl) rfl (fun K41 hK41 => ?_)
              go_simp
              go_at_call 10; (with_reducible refine (HIW.out _ (al_b wW (.cells #[.int .i64 0, .int .i64 0] 27))).mono ?_); rintro e wJ ⟨rfl, hbJ⟩; have HWJ := Lib.hid (bel_go (bel_go HWW.out (al_b wW (.cells #[.int .i64 0, .int .i64 0] 27))) hbJ); have htz := Lib.hid (two_to (two_new wW (.int .i64 0) (.int .i64 0) 27) hbJ); obtain ⟨_, z0, z1, y0, y1⟩ := htz.out; clear hbJ
              refine hK41.out _ _ ?_ (fun hHeld => ?_)
              · exact HSO.out _ HWJ.out
              clear hK41 K41
              try simp only [Act.put, List.setIfInBounds_toArray, List.set_cons_zero, List.set_cons_succ]
              refine wpAnyF_take (i := 8) (oi := _) (v := ?v42) rfl (by kernel_rfl) (by kernel_rfl) (by kernel_rfl) (by kernel_rfl) (by kernel_rfl) (by kernel_rfl) (by kernel_rfl) (by kernel_rfl) (fun _ _ _ h => h) (Or.inl ⟨by rfl, ?hy42⟩) (by assumption) ?rest42
              case hy42 => (intro w hSw; (try dsimp only at hSw); go_simp; try (with_reducible rfl))
              try simp only [Act.put, List.setIfInBounds_toArray, List.set_cons_zero, List.set_cons_succ]
              refine wpAnyF_take (i := 9) (oi := _) (v := ?v43) rfl (by kernel_rfl) (by kernel_rfl) (by kernel_rfl) (by kernel_rfl) (by kernel_rfl) (by kernel_rfl) (by kernel_rfl) (by kernel_rfl) (fun _ _ _ h => h) (Or.inl ⟨by rfl, ?hy43⟩) (by assumption) ?rest43
              case hy43 => (intro w hSw; (try dsimp only at hSw); go_simp; try (with_reducible rfl))
              try simp only [Act.put, List.setIfInBounds_toArray, List.set_cons_zero, List.set_cons_succ]
              refine wpAnyF_take (i := 10) (oi := _) (v := ?v44) rfl (by kernel_rfl) (by kernel_rfl) (by kernel_rfl) (by kernel_rfl) (by kernel_rfl) (by kernel_rfl) (by kernel_rfl) (by kernel_rfl) (fun _ _ _ h => h) (Or.inl ⟨by rfl, ?hy44⟩) (by assumption) ?rest44
              case hy44 => (intro w hSw; (try dsimp only at hSw); go_simp; try (with_reducible rfl))
              try simp only [Act.put, List.setIfInBounds_toArray, List.set_cons_zero, List.set_cons_succ]
              refine wpAnyF_take (i := 12) (oi := _) (v := ?v45) rfl (by kernel_rfl) (by kernel_rfl) (by kernel_rfl) (by kernel_rfl) (by kernel_rfl) (by kernel_rfl) (by kernel_rfl) (by kernel_rfl) (fun _ _ _ h => h) (Or.inl ⟨by rfl, ?hy45⟩) (by assumption) ?rest45
              case hy45 => (intro w hSw; (try dsimp only at hSw); go_simp; try (with_reducible rfl))
              try simp only [Act.put, List.setIfInBounds_toArray, List.set_cons_zero, List.set_cons_succ]
              refine wpAnyF_end (o := _) (by kernel_rfl) rfl (by kernel_rfl) (fun K46 hK46 => ?_)
              go_simp
              refine hK46.out _ _ ?_
              clear hK46 K46
              try simp only [Act.put, List.setIfInBounds_toArray, List.set_cons_zero, List.set_cons_succ]
              have HV2 := Lib.hid ((HWJ.out.setCell (p := ⟨wW.heap.size, 0, none⟩) HWW.out.size (.int .i64 0)).setCell (p := ⟨wW.heap.size, 1, none⟩) HWW.out.size (.int .i64 0))
              have HTF2 := Lib.hid (htz.out.set (.int .i64 0) (.int .i64 0))
              generalize hV2 : (wJ.setCell ⟨wW.heap.size, 0, none⟩ (.int .i64 0)).setCell ⟨wW.heap.size, 1, none⟩ (.int .i64 0) = V2 at HV2 HTF2 ⊢
              generalize hgf2 : wW.heap.size = gf2 at HTF2 ⊢
              clear hV2
              obtain ⟨_, j0, j1, _, _⟩ := HTF2.out
              go_wp2
              clear j0 j1 HTF2
              clear t0 t1 t2 t3 k0 k1 hcv
              go_loopw [12] (fun j wr => ∃ q : Nat, q ≤ ls.length ∧ j = .int .i64 q ∧ Below wo.heap.size wo wr) (fun j _ => ls.length - (intOf j).toNat)
              case atStart => exact ⟨0, by omega, rfl, HV2.out⟩
              case round =>
                obtain ⟨q, hq, rfl, hbq⟩ := hrel
                have HBQ := Lib.hid hbq
                have HW2 := Lib.hid (HB.out.trans (hbq.mono HB.out.size))
                clear hbq
                have hP := Lib.hid (HAL.out _ HW2.out)
                by_cases hql : q < ls.length
                case neg =>
                  have hge : ¬ ((q : Int) < ls.length) := by omega
                  go_wp2
                  go_roundw
                  case rel => exact ⟨k + 1, by omega, by go_num, HW2.out⟩
                  case measure => simp [intOf]; omega
                have hck := HCL.out _ HBQ.out
                obtain ⟨b', o', aq, cq, e', _, hcq, hlq⟩ := (show Rws _ _ (some ⟨bL, oL, none⟩) ls from hP.out (rwsS (some ⟨bL, oL, none⟩) ls) (by simp)).at_ hql
                cases e'
                by_cases hqk : q = k
                · subst hqk
                  have dne : ((q : Int) != (q : Int)) = false := by simp
                  have dne2 : ((q : Int) == (q : Int)) = true := by simp
                  clear hlq
                  go_wp2
                  go_quiet (first | (go_at_call 21; (with_reducible refine quiet_same (HSU.out _))))
                  go_wp2
                  go_roundw
                  case rel => exact ⟨q + 1, by omega, by go_num, belowN HBQ.out _⟩
                  case measure => simp [intOf]; omega
                · have dne : ((q : Int) != (k : Int)) = true := by simp; omega
                  have dne2 : ((q : Int) == (k : Int)) = false := by simp; omega
                  have hsu := fun n : Nat => subset_any ak aq ck cq (rw_ ls k) (rw_ ls q) (wr.drewN n) (HLST.out (wr.drewN n) (belowN HBQ.out n)).nums (hlq.to (belowN (Below.refl wr.heap.size wr) n) (belowN (Below.refl wr.heap.size wr) n).size).nums (HLST.out (wr.drewN n) (belowN HBQ.out n)).len hlq.len
                  rw [HFO.out.anti k q hlt hql hqk] at hsu
                  have HSU := Lib.hid hsu
                  clear hsu hlq
                  go_wp2
                  go_quiet (first | (go_at_call 21; (with_reducible refine quiet_same (HSU.out _))))
                  go_wp2
                  go_roundw
                  case rel => exact ⟨q + 1, by omega, by go_num, belowN HBQ.out _⟩
                  case measure => simp [intOf]; omega
          · skip
            go_simp
            refine hKB61.out _ _ ?_ (fun hHeld => ?_)
            · exact HSO.out _ (bel_go HV.out (al_b V (.cells #[.int .i64 0, .int .i64 0] 27))).drew
            clear hKB61 KB61
            try simp only [Act.put, List.setIfInBounds_toArray, List.set_cons_zero, List.set_cons_succ]
            refine wpAnyF_one (i := 6) (o := _) (by kernel_rfl) rfl (fun K48 hK48 => ?_)
            go_simp
            go_at_call 20; (with_reducible refine (HWI.out _ (bel_go HV.out (al_b V (.cells #[.int .i64 0, .int .i64 0] 27))).drew).mono ?_); rintro e wW ⟨cc, vW, rfl, hcut, how, hbW⟩; obtain ⟨aW, cW, rfl, hlW⟩ := (sliceOf_own how).set; have HWW := Lib.hid (bel_go (bel_go HV.out (al_b V (.cells #[.int .i64 0, .int .i64 0] 27))).drew hbW); have HBW := Lib.hid hbW; have hiw := (fun (X : World) (h : Below wW.heap.size wW X) => Inductive_any x aW cW (wthL (rw_ ls k) p cc) X (HTK.out X (bel_go HWW.out h)) (hlW.to h h.size)); rw [(HFO.out.max k p cc hlt hp0 hp1 hpn hcut).1, (HFO.out.max k p cc hlt hp0 hp1 hpn hcut).2] at hiw; have HIW := Lib.hid hiw; clear hiw hcut how hbW hlW; have htz0 := Lib.hid (two_to (two1 (two_new V (.int .i64 0) (.int .i64 0) 27)) HBW.out)
            refine hK48.out _ _ ?_ (fun hHeld => ?_)
            · exact HSO.out _ HWW.out
            clear hK48 K48
            try simp only [Act.put, List.setIfInBounds_toArray, List.set_cons_zero, List.set_cons_succ]
            refine wpAnyF_one (i := 7) (o := _) (by kernel_rfl) rfl (fun K49 hK49 => ?_)
            go_simp
            go_at_call 10; (with_reducible refine (HIW.out _ (Below.refl _ _)).mono ?_); rintro e wJ ⟨rfl, hbJ⟩; have HWJ := Lib.hid (bel_go (bel_go HWW.out (Below.refl _ _)) hbJ); have htz := Lib.hid (two_to htz0.out hbJ); obtain ⟨_, z0, z1, y0, y1⟩ := htz.out; clear hbJ
            refine hK49.out _ _ ?_ (fun hHeld => ?_)
            · exact HSO.out _ HWJ.out
            clear hK49 K49
            try simp only [Act.put, List.setIfInBounds_toArray, List.set_cons_zero, List.set_cons_succ]
            refine wpAnyF_take (i := 8) (oi := _) (v := ?v50) rfl (by kernel_rfl) (by kernel_rfl) (by kernel_rfl) (by kernel_rfl) (by kernel_rfl) (by kernel_rfl) (by kernel_rfl) (by kernel_rfl) (fun _ _ _ h => h) (Or.inl ⟨by rfl, ?hy50⟩) (by assumption) ?rest50
            case hy50 => (intro w hSw; (try dsimp only at hSw); go_simp; try (with_reducible rfl))
            try simp only [Act.put, List.setIfInBounds_toArray, List.set_cons_zero, List.set_cons_succ]
            refine wpAnyF_take (i := 9) (oi := _) (v := ?v51) rfl (by kernel_rfl) (by kernel_rfl) (by kernel_rfl) (by kernel_rfl) (by kernel_rfl) (by kernel_rfl) (by kernel_rfl) (by kernel_rfl) (fun _ _ _ h => h) (Or.inl ⟨by rfl, ?hy51⟩) (by assumption) ?rest51
            case hy51 => (intro w hSw; (try dsimp only at hSw); go_simp; try (with_reducible rfl))
            try simp only [Act.put, List.setIfInBounds_toArray, List.set_cons_zero, List.set_cons_succ]
            refine wpAnyF_take (i := 10) (oi := _) (v := ?v52) rfl (by kernel_rfl) (by kernel_rfl) (by kernel_rfl) (by kernel_rfl) (by kernel_rfl) (by kernel_rfl) (by kernel_rfl) (by kernel_rfl) (fun _ _ _ h => h) (Or.inl ⟨by rfl, ?hy52⟩) (by assumption) ?rest52
            case hy52 => (intro w hSw; (try dsimp only at hSw); go_simp; try (with_reducible rfl))
            try simp only [Act.put, List.setIfInBounds_toArray, List.set_cons_zero, List.set_cons_succ]
            refine wpAnyF_take (i := 12) (oi := _) (v := ?v53) rfl (by kernel_rfl) (by kernel_rfl) (by kernel_rfl) (by kernel_rfl) (by kernel_rfl) (by kernel_rfl) (by kernel_rfl) (by kernel_rfl) (fun _ _ _ h => h) (Or.inl ⟨by rfl, ?hy53⟩) (by assumption) ?rest53
            case hy53 => (intro w hSw; (try dsimp only at hSw); go_simp; try (with_reducible rfl))
            try simp only [Act.put, List.setIfInBounds_toArray, List.set_cons_zero, List.set_cons_succ]
            refine wpAnyF_end (o := _) (by kernel_rfl) rfl (by kernel_rfl) (fun K54 hK54 => ?_)
            go_simp
            refine hK54.out _ _ ?_
            clear hK54 K54
            try simp only [Act.put, List.setIfInBounds_toArray, List.set_cons_zero, List.set_cons_succ]
            have HV2 := Lib.hid ((HWJ.out.setCell (p := ⟨V.heap.size, 0, none⟩) HV.out.size (.int .i64 0)).setCell (p := ⟨V.heap.size, 1, none⟩) HV.out.size (.int .i64 0))
            have HTF2 := Lib.hid (htz.out.set (.int .i64 0) (.int .i64 0))
            generalize hV2 : (wJ.setCell ⟨V.heap.size, 0, none⟩ (.int .i64 0)).setCell ⟨V.heap.size, 1, none⟩ (.int .i64 0) = V2 at HV2 HTF2 ⊢
            generalize hgf2 : V.heap.size = gf2 at HTF2 ⊢
            clear hV2
            obtain ⟨_, j0, j1, _, _⟩ := HTF2.out
            go_wp2
            clear j0 j1 HTF2
            clear t0 t1 t2 t3 k0 k1 hcv
            go_loopw [12] (fun j wr => ∃ q : Nat, q ≤ ls.length ∧ j = .int .i64 q ∧ Below wo.heap.size wo wr) (fun j _ => ls.length - (intOf j).toNat)
            case atStart => exact ⟨0, by omega, rfl, HV2.out⟩
            case round =>
              obtain ⟨q, hq, rfl, hbq⟩ := hrel
              have HBQ := Lib.hid hbq
              have HW2 := Lib.hid (HB.out.trans (hbq.mono HB.out.size))
              clear hbq
              have hP := Lib.hid (HAL.out _ HW2.out)
              by_cases hql : q < ls.length
              case neg =>
                have hge : ¬ ((q : Int) < ls.length) := by omega
                go_wp2
                go_roundw
                case rel => exact ⟨k + 1, by omega, by go_num, HW2.out⟩
                case measure => simp [intOf]; omega
              have hck := HCL.out _ HBQ.out
              obtain ⟨b', o', aq, cq, e', _, hcq, hlq⟩ := (show Rws _ _ (some ⟨bL, oL, none⟩) ls from hP.out (rwsS (some ⟨bL, oL, none⟩) ls) (by simp)).at_ hql
              cases e'
              by_cases hqk : q = k
              · subst hqk
                have dne : ((q : Int) != (q : Int)) = false := by simp
                have dne2 : ((q : Int) == (q : Int)) = true := by simp
                clear hlq
                go_wp2
                go_quiet (first | (go_at_call 21; (with_reducible refine quiet_same (HSU.out _))))
                go_wp2
                go_roundw
                case rel => exact ⟨q + 1, by omega, by go_num, belowN HBQ.out _⟩
                case measure => simp [intOf]; omega
              · have dne : ((q : Int) != (k : Int)) = true := by simp; omega
                have dne2 : ((q : Int) == (k : Int)) = false := by simp; omega
                have hsu := fun n : Nat => subset_any ak aq ck cq (rw_ ls k) (rw_ ls q) (wr.drewN n) (HLST.out (wr.drewN n) (belowN HBQ.out n)).nums (hlq.to (belowN (Below.refl wr.heap.size wr) n) (belowN (Below.refl wr.heap.size wr) n).size).nums (HLST.out (wr.drewN n) (belowN HBQ.out n)).len hlq.len
                rw [HFO.out.anti k q hlt hql hqk] at hsu
                have HSU := Lib.hid hsu
                clear hsu hlq
                go_wp2
                go_quiet (first | (go_at_call 21; (with_reducible refine quiet_same (HSU.out _))))
                go_wp2
                go_roundw
                case rel => exact ⟨q + 1, by omega, by go_num, belowN HBQ.out _⟩
                case measure => simp [intOf]; omega
        · rw [hhs] at HHS
          go_wp2_with (first | (go_at_call 18; refine (in_no2 hin _).mono ?_; rintro e w' ⟨rfl, rfl⟩) | (go_at_call 19; (with_reducible refine HHS.out.mono ?_); rintro e w' ⟨rfl, rfl⟩))
          clear t0 t1 t2 t3 k0 k1 hcv
          go_loopw [12] (fun j wr => ∃ q : Nat, q ≤ ls.length ∧ j = .int .i64 q ∧ Below wo.heap.size wo wr) (fun j _ => ls.length - (intOf j).toNat)
          case atStart => exact ⟨0, by omega, rfl, HV.out⟩
          case round =>
            obtain ⟨q, hq, rfl, hbq⟩ := hrel
            have HBQ := Lib.hid hbq
            have HW2 := Lib.hid (HB.out.trans (hbq.mono HB.out.size))
            clear hbq
            have hP := Lib.hid (HAL.out _ HW2.out)
            by_cases hql : q < ls.length
            case neg =>
              have hge : ¬ ((q : Int) < ls.length) := by omega
              go_wp2
              go_roundw
              case rel => exact ⟨k + 1, by omega, by go_num, HW2.out⟩
              case measure => simp [intOf]; omega
            have hck := HCL.out _ HBQ.out
            obtain ⟨b', o', aq, cq, e', _, hcq, hlq⟩ := (show Rws _ _ (some ⟨bL, oL, none⟩) ls from hP.out (rwsS (some ⟨bL, oL, none⟩) ls) (by simp)).at_ hql
            cases e'
            by_cases hqk : q = k
            · subst hqk
              have dne : ((q : Int) != (q : Int)) = false := by simp
              have dne2 : ((q : Int) == (q : Int)) = true := by simp
              clear hlq
              go_wp2
              go_quiet (first | (go_at_call 21; (with_reducible refine quiet_same (HSU.out _))))
              go_wp2
              go_roundw
              case rel => exact ⟨q + 1, by omega, by go_num, belowN HBQ.out _⟩
              case measure => simp [intOf]; omega
            · have dne : ((q : Int) != (k : Int)) = true := by simp; omega
              have dne2 : ((q : Int) == (k : Int)) = false := by simp; omega
              have hsu := fun n : Nat => subset_any ak aq ck cq (rw_ ls k) (rw_ ls q) (wr.drewN n) (HLST.out (wr.drewN n) (belowN HBQ.out n)).nums (hlq.to (belowN (Below.refl wr.heap.size wr) n) (belowN (Below.refl wr.heap.size wr) n).size).nums (HLST.out (wr.drewN n) (belowN HBQ.out n)).len hlq.len
              rw [HFO.out.anti k q hlt hql hqk] at hsu
              have HSU := Lib.hid hsu
              clear hsu hlq
              go_wp2
              go_quiet (first | (go_at_call 21; (with_reducible refine quiet_same (HSU.out _))))
              go_wp2
              go_roundw
              case rel => exact ⟨q + 1, by omega, by go_num, belowN HBQ.out _⟩
              case measure => simp [intOf]; omega
end Go.Proofs.YtenmegkokclolaaDoor
