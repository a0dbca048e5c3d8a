/- The law EncodeClassesDivide. -/
import Derived.Test.YtiaobanloakplaaDoorEl1
import Derived.Test.YtiaobanloakplaaDoorEcp
import Derived.Deep.CutRange
import Derived.Deep.RegionHeld3
namespace Go.Proofs.YtiaobanloakplaaDoor
open Go.RowKit
set_option linter.unusedSimpArgs false
set_option linter.unusedVariables false
set_option maxRecDepth 100000

set_option maxHeartbeats 1000000 in
theorem perm_any (n : Nat) (A : Option Addr) (c : Nat) (l : List Int) (w : World) (hL : Lst w w.heap.size A c l) (hn : n ≤ 24) (hm : ∀ p : Int, p ∈ l ↔ 0 ≤ p ∧ p < n) (hl : l.length = n) :
    Calls Tryd.prog 33 #[.int .i64 n, .slice A l.length c] w fun e w' => e = .returned (.bool true) ∧ w = w' := by
  have hH := fun (k : Nat) (hk : k < n) => (show Calls _ _ _ _ _ from has_any A c l (k : Int) w hL.nums hL.len)
  have HM := Lib.hid (fun (k : Nat) (hk : k < n) => (show hasB l (k : Int) = true from decide_eq_true ((hm k).2 ⟨by omega, by omega⟩)))
  have HH := Lib.hid hH
  have he : ((l.length : Int) == n) = true := by rw [hl]; simp
  have he2 : ((n : Int) == n) = true := by simp
  clear hL hm hH hl
  go_enter Tryd.func33, Tryd.ntmps33
  go_wp2
  go_loop [5] (fun i => ∃ k : Nat, k ≤ n ∧ i = .int .i64 k) (fun i => n - (intOf i).toNat)
  case atStart => exact ⟨0, by omega, rfl⟩
  case round =>
    obtain ⟨k, hk, rfl⟩ := hrel
    by_cases hlt : k < n
    · have hh := HH.out k hlt
      rw [HM.out k hlt] at hh
      have HHK := Lib.hid hh
      clear hh
      go_wp2_with (go_at_call 42; (with_reducible refine HHK.out.mono ?_); rintro e w' ⟨rfl, rfl⟩)
      go_round
      case rel => exact ⟨k + 1, by omega, by go_num⟩
      case measure => simp [intOf]; omega
    · have hge : ¬ ((k : Int) < n) := by omega
      go_wp2
      go_ret
      exact ⟨rfl, rfl⟩
theorem rwsN_b {w W : World} {A : Option Addr} {gs : List (List Int)} (hG : RwsN w A gs) (h : Below w.heap.size w W) : RwsN W A gs := hG.to h
theorem nums_news {W : World} {b o : Nat} {l : List Int} (h : ∀ k, k < l.length → W.cell? ⟨b, o + k, none⟩ = some (.int .i64 (ix l k))) : ∀ j u, (l.map (Value.int .i64))[j]? = some u → W.cell? ((⟨b, o, none⟩ : Addr).add j) = some u := by
  intro j u hj
  rw [Addr.add_lit]
  rw [List.getElem?_map] at hj
  cases hq : l[j]? with
  | none => rw [hq] at hj; cases hj
  | some z =>
    rw [hq] at hj
    obtain ⟨hlt, e⟩ := List.getElem?_eq_some_iff.1 hq
    have := h j hlt
    rw [this]
    simp at hj
    rw [← hj]
    simp [ix, List.getD, hq]
/-- A class lies in one of the first k groups, or it is a single fact. -/
def insB (c : List Int) (gs : List (List Int)) (k : Nat) : Bool := decide (c.length = 1) || (List.range k).any (fun j => subB c (rw_ gs j))
theorem insB_succ (c : List Int) (gs : List (List Int)) (k : Nat) : insB c gs (k + 1) = (insB c gs k || subB c (rw_ gs k)) := by
  unfold insB
  rw [List.range_succ, List.any_append]
  simp [Bool.or_assoc]
theorem insB_zero (c : List Int) (gs : List (List Int)) : insB c gs 0 = decide (c.length = 1) := by simp [insB]
theorem insB_good {c : List Int} {gs : List (List Int)} (h : c.length = 1 ∨ ∃ k, k < gs.length ∧ ∀ p, p ∈ c → p ∈ rw_ gs k) : insB c gs gs.length = true := by
  unfold insB
  rw [Bool.or_eq_true, decide_eq_true_eq, List.any_eq_true]
  rcases h with h | ⟨k, hk, h⟩
  · exact .inl h
  · exact .inr ⟨k, by simpa using hk, subB_iff.2 h⟩
theorem fl_succ {cs : List (List Int)} {k : Nat} (h : k < cs.length) : (cs.take (k + 1)).flatten = (cs.take k).flatten ++ rw_ cs k := by
  have e : cs.take (k + 1) = cs.take k ++ [rw_ cs k] := by
    rw [List.take_add_one, List.getElem?_eq_getElem h]
    simp [rw_, List.getD, h]
  rw [e, List.flatten_append]; simp
theorem fl_le (cs : List (List Int)) (k : Nat) : ((cs.take k).flatten).length ≤ cs.flatten.length := by
  have h : cs.flatten = (cs.take k).flatten ++ (cs.drop k).flatten := by rw [← List.flatten_append, List.take_append_drop]
  rw [h, List.length_append]; omega
theorem wpAnyF_two {P : Program} {ops : Array Oper} {Q : Exit → Act → World → Prop} {md : Region.Mode} {S : World → Prop} {m i j : Nat} {o o' : Oper} {f : Nat} {listed : Array Bool} {a : Act} {w : World} (hr : Region.ready md ops listed = [i, j]) (ho : ops[i]? = some o) (ho' : ops[j]? = some o')
    (h : ∀ K' : Act → World → Prop, Shut (∀ a w, S w → (S w → wpAnyF P md ops Q S m f (listed.setIfInBounds i true) a w) → K' a w) → if Region.wanted o (yielded ops a.tmps) = true then Oper.wp P o a w K' Q else K' (a.put o.dst undef) w)
    (h' : ∀ K' : Act → World → Prop, Shut (∀ a w, S w → (S w → wpAnyF P md ops Q S m f (listed.setIfInBounds j true) a w) → K' a w) → if Region.wanted o' (yielded ops a.tmps) = true then Oper.wp P o' a w K' Q else K' (a.put o'.dst undef) w) :
    wpAnyF P md ops Q S m (f + 1) listed a w := by
  refine ⟨fun h => (by rw [hr] at h; cases h), fun k hk => ?_⟩
  rw [hr] at hk
  rcases List.mem_cons.1 hk with rfl | hk
  · exact wpOp_step ho (fun K' hK => h K' (fun a w hS hW => hK a w ⟨fun _ => hS, hW hS⟩))
  · obtain rfl := List.mem_singleton.1 hk
    exact wpOp_step ho' (fun K' hK => h' K' (fun a w hS hW => hK a w ⟨fun _ => hS, hW hS⟩))
set_option maxHeartbeats 8000000 in
theorem divide_law (x : Tsk) (gs : List (List Int)) (A : Option Addr) (c : Nat) (w : World) (hX : TskIn w w.heap.size x) (hG : RwsN w A gs) (hgl : gs.length ≤ c) (hgm : c ≤ maxLen) (hT : TabIn w) : Calls Tryd.prog 7 #[.agg #[.int .i64 x.n, .slice x.ai x.init.length x.ci, .slice x.ag x.goal.length x.cg, .slice x.ao x.ops.length x.co], .slice A gs.length c] w fun e w' => e = .returned (.bool true) ∧ Below w.heap.size w w' := by
  have HB0 := Lib.hid (al_b w (.cells #[.int .i64 x.n, .slice x.ai x.init.length x.ci, .slice x.ag x.goal.length x.cg, .slice x.ao x.ops.length x.co] 25))
  have HBX := Lib.hid (tbox_new w x 25)
  have hCV := cover_any x gs A c _ (hX.to HB0.out HB0.out.size) (hG.to (al_b w _)).rws hgl hgm (hT.to HB0.out (Nat.le_refl _))
  have HT := Lib.hid (fun (W : World) (h : Below w.heap.size w W) => hT.to h (Nat.le_refl _))
  by_cases hz : (gfF x gs).1 = 0
  case neg =>
    have e1 : covR x gs = [] := by unfold covR; rw [if_neg hz]
    unfold CoP at hCV
    rw [e1] at hCV
    generalize gfF x gs = r at *
    have hne : (r.1 == 0) = false := by simpa using hz
    have hne2 : (r.1 != 0) = true := by simpa using hz
    have HCV := Lib.hid hCV
    clear hX hG hgl hgm hT e1 hCV hz
    go_enter Tryd.func7, Tryd.ntmps7
    go_wp2_with (first | (go_at_call 9; (with_reducible refine HCV.out.mono ?_); rintro e w1 ⟨v1, rfl, hb, hon⟩; obtain ⟨a1, c1, rfl, hr1, hle1, hmx1⟩ := hon.out; have hM := Lib.hid (lw_new (HB0.out.trans (hb.mono HB0.out.size)) (HBX.out.to hb HBX.out.lt) r.1 r.2); have hR1 := Lib.hid (hr1.to (al_b w1 (.cells #[.int .i64 r.1, .int .i64 r.2] 28))); clear hb hon hr1; obtain ⟨_, ⟨_, t0, t1, t2, t3⟩, _, ⟨_, k0, k1, f0, f1⟩⟩ := hM.out) | (go_at_call 10; refine (encodes_any _ (HT.out _ hM.out.below)).mono ?_; rintro e w6 ⟨rfl, hb⟩; have hM := Lib.hid (hM.out.to hb); have hR1 := Lib.hid (hR1.out.to hb); clear hb; clear t0 t1 t2 t3 k0 k1 f0 f1; obtain ⟨_, ⟨_, t0, t1, t2, t3⟩, _, ⟨_, k0, k1, f0, f1⟩⟩ := hM.out))
    all_goals
      go_ret
      exact ⟨rfl, hM.out.below⟩
  obtain ⟨hz0, htk, hg24, _⟩ := gfF_zero hz
  have hval := tkF_val htk
  have hC := cls_any hz
  have hle := hval.le
  have heq := hval.eq
  generalize hN : x.n.toNat = n at *
  have hone := fun (cl : List Int) (h : IsS cl n) (h1 : cl.length = 1) => one_ind hval h h1
  have hiF : ∀ cl, IsS cl n → iF x cl = (0, 0) := by
    intro cl h
    unfold iF
    rw [if_neg (by simp [htk]), if_pos (setB_iff.2 (by rw [heq]; exact h))]
  have hiB : ∀ cl, IsS cl n → iB x cl = indB x cl := by
    intro cl h
    unfold iB; rw [hiF cl h]; rfl
  obtain ⟨hc48, hc24⟩ := covR_bd hz
  unfold CoP at hCV
  rw [hz0] at hCV
  have HX := Lib.hid (fun (W : World) (h : Below w.heap.size w W) => hX.to h h.size)
  have HG := Lib.hid (fun (W : World) (h : Below w.heap.size w W) => rwsN_b hG h)
  have HCV := Lib.hid hCV
  have HCM := Lib.hid hC.mem
  have HCN := Lib.hid hC.len
  have HCK := Lib.hid hC.cls
  have HONE := Lib.hid hone
  have HIF := Lib.hid hiF
  have HIB := Lib.hid hiB
  have hgl24 : gs.length ≤ 24 := hg24
  have HEQ := Lib.hid heq
  clear hX hG hgl hgm hT hCV hz hz0 htk hg24 hval hC hone hiF hiB hN heq
  generalize covR x gs = cs at *
  obtain ⟨i0, hi, hz0, hz1, hz2⟩ := info_parts info_int
  go_enter Tryd.func7, Tryd.ntmps7
  go_wp2_with (first | (go_at_call 9; (with_reducible refine HCV.out.mono ?_); rintro e w1 ⟨v1, rfl, hb, hon⟩; obtain ⟨a1, c1, rfl, hr1, hle1, hmx1⟩ := hon.out; have hM := Lib.hid (lw_new (HB0.out.trans (hb.mono HB0.out.size)) (HBX.out.to hb HBX.out.lt) 0 0); have hR1 := Lib.hid (hr1.to (al_b w1 (.cells #[.int .i64 0, .int .i64 0] 28))); clear hb hon hr1; obtain ⟨_, ⟨_, t0, t1, t2, t3⟩, _, ⟨_, k0, k1, f0, f1⟩⟩ := hM.out) | (go_at_call 10; refine (encodes_any _ (HT.out _ hM.out.below)).mono ?_; rintro e w6 ⟨rfl, hb⟩; have hM := Lib.hid (hM.out.to hb); have hR1 := Lib.hid (hR1.out.to hb); clear hb; clear t0 t1 t2 t3 k0 k1 f0 f1; obtain ⟨_, ⟨_, t0, t1, t2, t3⟩, _, ⟨_, k0, k1, f0, f1⟩⟩ := hM.out))
  have HLW := Lib.hid (fun (V : World) (h : Below w6.heap.size w6 V) => hM.out.to h)
  have HRC := Lib.hid (fun (V : World) (h : Below w6.heap.size w6 V) => hR1.out.to h)
  clear hM hR1 t0 t1 t2 t3 k0 k1 f0 f1 HCV HB0 HBX HT
  go_loopw [7, 8] (fun v i wr => ∃ k : Nat, k ≤ cs.length ∧ i = .int .i64 k ∧ Below w6.heap.size w6 wr ∧ wr.ownsRow w6.heap.size 3 1 v ((cs.take k).flatten).length (((cs.take k).flatten).map (Value.int .i64))) (fun _ i _ => cs.length - (intOf i).toNat)
  case atStart => exact ⟨0, by omega, rfl, Below.refl _ _, by simpa using World.ownsRow_nil w6 w6.heap.size 3 1⟩
  case round =>
    obtain ⟨k, hk, rfl, hbw, hown⟩ := hrel
    have HW := Lib.hid hbw
    have HO := Lib.hid hown
    clear hbw hown
    have hM := Lib.hid (HLW.out _ HW.out)
    obtain ⟨_, ⟨_, t0, t1, t2, t3⟩, _, ⟨_, k0, k1, f0, f1⟩⟩ := hM.out
    by_cases hlt : k < cs.length
    case neg =>
      have hge : ¬ ((k : Int) < cs.length) := by omega
      have HE := Lib.hid (show cs.take k = cs from List.take_of_length_le (by omega))
      rw [HE.out] at HO
      rw [HEQ.out] at t0
      have hs := slL_own HO.out
      obtain ⟨a7, c7, rfl, hl7⟩ := hs
      have HPE := Lib.hid (perm_any n a7 c7 cs.flatten wr hl7.lst hle HCM.out HCN.out)
      clear hl7 HCM HCN HCK
      generalize cs.flatten = ff at *
      go_wp2_with (go_at_call 33; (with_reducible refine HPE.out.mono ?_); rintro e w' ⟨rfl, rfl⟩)
      go_ret
      exact ⟨rfl, hM.out.below⟩
    obtain ⟨b, o, ak, ck, rfl, hbl, hcell, hlst⟩ := (HRC.out _ HW.out).at_ hlt
    have hcm : rw_ cs k ∈ cs := by simp [rw_, List.getD, hlt]
    obtain ⟨hcn, hcs, hci⟩ := HCK.out _ hcm
    have HCI := Lib.hid (insB_good hci)
    have HCS := Lib.hid hcs
    have HST := Lib.hid (fl_succ hlt)
    have hfl := fl_le cs k
    rw [HCN.out] at hfl
    have hcl : (rw_ cs k).length ≤ 24 := isS_len (n := 24) (hcs.mono (by omega))
    have hcl1 : 1 ≤ (rw_ cs k).length := by
      rcases Nat.eq_zero_or_pos (rw_ cs k).length with h | h
      · exact absurd (List.eq_nil_of_length_eq_zero h) hcn
      · exact h
    have HCC := Lib.hid (fun (V : World) (h : Below wr.heap.size wr V) => (h.cell (p := ⟨b, o + k, none⟩) hbl).trans hcell)
    have HCL := Lib.hid (fun (V : World) (h : Below wr.heap.size wr V) => hlst.to h)
    have HRG := Lib.hid (fun (V : World) (h : Below wr.heap.size wr V) => HG.out V ((hM.out.to h).below))
    have HLR := Lib.hid (fun (V : World) (h : Below wr.heap.size wr V) => hM.out.to h)
    have hsz := HW.out.size
    have hI0 := insB_zero (rw_ cs k) gs
    clear hcn hcs hci hcm hlst
    generalize hcc : rw_ cs k = cl at *
    generalize (cs.take k).flatten = fl at *
    have hM2 := Lib.hid hM.out
    clear t0 t1 t2 t3 k0 k1 f0 f1 hM
    go_wp2
    go_loopw [9, 10] (fun q i wi => ∃ j : Nat, j ≤ gs.length ∧ i = .int .i64 j ∧ q = .bool (insB cl gs j) ∧ Below wr.heap.size wr wi) (fun _ i _ => gs.length - (intOf i).toNat)
    case atStart => exact ⟨0, by omega, rfl, by rw [hI0]; first | rfl | (congr 1; rw [Bool.eq_iff_iff]; simp; omega), Below.refl _ _⟩
    case round =>
      obtain ⟨j, hj, rfl, rfl, hbi⟩ := hrel
      have HI := Lib.hid hbi
      clear hbi hI0
      rename World => wi
      have hci := HCC.out _ HI.out
      by_cases hltj : j < gs.length
      · obtain ⟨bg, og, ag, cg, rfl, hbg, hgcell, hglst⟩ := (HRG.out _ HI.out).at_ hltj
        have HIS := Lib.hid (insB_succ cl gs j)
        have hjl : (j : Int) < gs.length := by omega
        cases hq : insB cl gs j
        · have hsu := fun n : Nat => subset_any ak ag ck cg cl (rw_ gs j) (wi.drewN n) ((HCL.out _ (belowN HI.out n)).lst.nums) ((hglst.to (belowN (Below.refl wi.heap.size wi) n)).lst.nums) (HCL.out _ HI.out).lst.len hglst.lst.len
          have HSU := Lib.hid hsu
          rw [hq, Bool.false_or] at HIS
          clear hsu hglst hq
          generalize subB cl (rw_ gs j) = sb at *
          go_wp2
          go_quiet ((go_at_call 31; exact quiet_same (HSU.out _)))
          go_wp2
          go_roundw
          case rel => exact ⟨j + 1, by omega, by go_num, by rw [HIS.out], belowN HI.out _⟩
          case measure => simp [intOf]; omega
        · rw [hq, Bool.true_or] at HIS
          clear hglst hq
          go_wp2
          go_quiet (fail)
          go_wp2
          go_roundw
          case rel => exact ⟨j + 1, by omega, by go_num, by rw [HIS.out], belowN HI.out _⟩
          case measure => simp [intOf]; omega
      have hge : ¬ ((j : Int) < gs.length) := by omega
      obtain rfl : j = gs.length := by omega
      rw [HCI.out]
      have hM := Lib.hid (HLR.out _ HI.out)
      obtain ⟨_, ⟨_, t0, t1, t2, t3⟩, _, ⟨_, k0, k1, f0, f1⟩⟩ := hM.out
      go_upto_region 13 with (fail)
      have hIN := fun (V : World) (h : Below wi.heap.size wi V) => Inductive_any x ak ck cl V (HX.out _ (((HLR.out _ HI.out).to h).below)) ((HCL.out _ (HI.out.trans (h.mono HI.out.size))).lst)
      rw [HIF.out cl HCS.out, HIB.out cl HCS.out] at hIN
      have HIN := Lib.hid hIN
      have HSO := Lib.hid (fun (V : World) (h : Below wi.heap.size wi V) => (⟨((HLR.out _ HI.out).to h).box.c0, ((HLR.out _ HI.out).to h).box.c1, ((HLR.out _ HI.out).to h).box.c2, ((HLR.out _ HI.out).to h).box.c3, HCC.out _ (HI.out.trans (h.mono HI.out.size)), h⟩ : V.cell? ⟨w.heap.size, 0, none⟩ = some (.int .i64 x.n) ∧ V.cell? ⟨w.heap.size, 1, none⟩ = some (.slice x.ai x.init.length x.ci) ∧ V.cell? ⟨w.heap.size, 2, none⟩ = some (.slice x.ag x.goal.length x.cg) ∧ V.cell? ⟨w.heap.size, 3, none⟩ = some (.slice x.ao x.ops.length x.co) ∧ V.cell? ⟨b, o + k, none⟩ = some (.slice ak cl.length ck) ∧ Below wi.heap.size wi V))
      have hww := Below.refl wi.heap.size wi
      clear hIN hM t0 t1 t2 t3 k0 k1 f0 f1 hci
      go_cut [11, 12] from 62 to 70 (fun q p wx => q = .bool (indB x cl) ∧ ∃ g, p = .pointer (some ⟨g, 0, none⟩) ∧ Two wx g (.int .i64 0) (.int .i64 0) ∧ Below wi.heap.size wi wx)
      case first =>
        have hM := Lib.hid (HLR.out _ HI.out)
        obtain ⟨_, ⟨_, t0, t1, t2, t3⟩, _, ⟨_, k0, k1, f0, f1⟩⟩ := hM.out
        have hci := HCC.out _ HI.out
        refine wp_region_F (S := (fun V => V.cell? ⟨w.heap.size, 0, none⟩ = some (.int .i64 x.n) ∧ V.cell? ⟨w.heap.size, 1, none⟩ = some (.slice x.ai x.init.length x.ci) ∧ V.cell? ⟨w.heap.size, 2, none⟩ = some (.slice x.ag x.goal.length x.cg) ∧ V.cell? ⟨w.heap.size, 3, none⟩ = some (.slice x.ao x.ops.length x.co) ∧ V.cell? ⟨b, o + k, none⟩ = some (.slice ak cl.length ck) ∧ Below wi.heap.size wi V)) 11 (by kernel_rfl) ?_ (fun hHeld => ?_)
        · exact HSO.out _ hww.drew
        refine wpAnyF_take (i := 0) (oi := _) (v := ?zv1) rfl (by kernel_rfl) (by kernel_rfl) (by kernel_rfl) (by kernel_rfl) (by kernel_rfl) (by kernel_rfl) (by kernel_rfl) (by kernel_rfl) (fun _ _ _ h => h) (Or.inl ⟨by rfl, ?zy1⟩) (by assumption) ?zr1
        case zy1 => (intro w hSw; (try dsimp only at hSw); go_simp; try (with_reducible rfl))
        try simp only [Act.put, List.setIfInBounds_toArray, List.set_cons_zero, List.set_cons_succ]
        refine wpAnyF_take (i := 1) (oi := _) (v := ?zv2) rfl (by kernel_rfl) (by kernel_rfl) (by kernel_rfl) (by kernel_rfl) (by kernel_rfl) (by kernel_rfl) (by kernel_rfl) (by kernel_rfl) (fun _ _ _ h => h) (Or.inl ⟨by rfl, ?zy2⟩) (by assumption) ?zr2
        case zy2 => (intro w hSw; (try dsimp only at hSw); go_simp; try (with_reducible rfl))
        try simp only [Act.put, List.setIfInBounds_toArray, List.set_cons_zero, List.set_cons_succ]
        refine wpAnyF_take (i := 2) (oi := _) (v := ?zv3) rfl (by kernel_rfl) (by kernel_rfl) (by kernel_rfl) (by kernel_rfl) (by kernel_rfl) (by kernel_rfl) (by kernel_rfl) (by kernel_rfl) (fun _ _ _ h => h) (Or.inl ⟨by rfl, ?zy3⟩) (by assumption) ?zr3
        case zy3 => (intro w hSw; (try dsimp only at hSw); go_simp; try (with_reducible rfl))
        try simp only [Act.put, List.setIfInBounds_toArray, List.set_cons_zero, List.set_cons_succ]
        refine wpAnyF_take (i := 3) (oi := _) (v := ?zv4) rfl (by kernel_rfl) (by kernel_rfl) (by kernel_rfl) (by kernel_rfl) (by kernel_rfl) (by kernel_rfl) (by kernel_rfl) (by kernel_rfl) (fun _ _ _ h => h) (Or.inl ⟨by rfl, ?zy4⟩) (by assumption) ?zr4
        case zy4 => (intro w hSw; (try dsimp only at hSw); go_simp; try (with_reducible rfl))
        try simp only [Act.put, List.setIfInBounds_toArray, List.set_cons_zero, List.set_cons_succ]
        refine wpAnyF_take (i := 4) (oi := _) (v := ?zv5) rfl (by kernel_rfl) (by kernel_rfl) (by kernel_rfl) (by kernel_rfl) (by kernel_rfl) (by kernel_rfl) (by kernel_rfl) (by kernel_rfl) (fun _ _ _ h => h) (Or.inl ⟨by rfl, ?zy5⟩) (by assumption) ?zr5
        case zy5 => (intro w hSw; (try dsimp only at hSw); go_simp; try (with_reducible rfl))
        try simp only [Act.put, List.setIfInBounds_toArray, List.set_cons_zero, List.set_cons_succ]
        refine wpAnyF_two (i := 5) (j := 9) (o := _) (o' := _) (by kernel_rfl) rfl rfl (fun KA hKA => ?_) (fun KB hKB => ?_)
        · skip
          go_simp
          go_at_call 32; (with_reducible refine (HIN.out _ hww.drew).mono ?_); rintro e wI ⟨rfl, hbI⟩; have HWA := Lib.hid (bel_go hww.drew hbI); have HWB := Lib.hid (bel_go HWA.out (al_b wI (.cells #[.int .i64 0, .int .i64 0] 28))); clear hbI
          refine hKA.out _ _ ?_ (fun hHeld => ?_)
          · exact HSO.out _ HWA.out
          clear hKA KA
          try simp only [Act.put, List.setIfInBounds_toArray, List.set_cons_zero, List.set_cons_succ]
          refine wpAnyF_take (i := 6) (oi := _) (v := ?zv6) rfl (by kernel_rfl) (by kernel_rfl) (by kernel_rfl) (by kernel_rfl) (by kernel_rfl) (by kernel_rfl) (by kernel_rfl) (by kernel_rfl) (fun _ _ _ h => h) (Or.inl ⟨by rfl, ?zy6⟩) (by assumption) ?zr6
          case zy6 => (intro w hSw; (try dsimp only at hSw); go_simp; try (with_reducible rfl))
          try simp only [Act.put, List.setIfInBounds_toArray, List.set_cons_zero, List.set_cons_succ]
          refine wpAnyF_take (i := 7) (oi := _) (v := ?zv7) rfl (by kernel_rfl) (by kernel_rfl) (by kernel_rfl) (by kernel_rfl) (by kernel_rfl) (by kernel_rfl) (by kernel_rfl) (by kernel_rfl) (fun _ _ _ h => h) (Or.inl ⟨by rfl, ?zy7⟩) (by assumption) ?zr7
          case zy7 => (intro w hSw; (try dsimp only at hSw); go_simp; try (with_reducible rfl))
          try simp only [Act.put, List.setIfInBounds_toArray, List.set_cons_zero, List.set_cons_succ]
          refine wpAnyF_take (i := 8) (oi := _) (v := ?zv8) rfl (by kernel_rfl) (by kernel_rfl) (by kernel_rfl) (by kernel_rfl) (by kernel_rfl) (by kernel_rfl) (by kernel_rfl) (by kernel_rfl) (fun _ _ _ h => h) (Or.inl ⟨by rfl, ?zy8⟩) (by assumption) ?zr8
          case zy8 => (intro w hSw; (try dsimp only at hSw); go_simp; try (with_reducible rfl))
          try simp only [Act.put, List.setIfInBounds_toArray, List.set_cons_zero, List.set_cons_succ]
          refine wpAnyF_one (i := 9) (o := _) (by kernel_rfl) rfl (fun ZK9 hZK9 => ?_)
          go_simp
          refine hZK9.out _ _ ?_ (fun hHeld => ?_)
          · exact HSO.out _ HWB.out
          clear hZK9 ZK9
          try simp only [Act.put, List.setIfInBounds_toArray, List.set_cons_zero, List.set_cons_succ]
          refine wpAnyF_take (i := 10) (oi := _) (v := ?zv10) rfl (by kernel_rfl) (by kernel_rfl) (by kernel_rfl) (by kernel_rfl) (by kernel_rfl) (by kernel_rfl) (by kernel_rfl) (by kernel_rfl) (fun _ _ _ h => h) (Or.inl ⟨by rfl, ?zy10⟩) (by assumption) ?zr10
          case zy10 => (intro w hSw; (try dsimp only at hSw); go_simp; try (with_reducible rfl))
          try simp only [Act.put, List.setIfInBounds_toArray, List.set_cons_zero, List.set_cons_succ]
          refine wpAnyF_end (o := _) (by kernel_rfl) rfl (by kernel_rfl) (fun ZK11 hZK11 => ?_)
          go_simp
          refine hZK11.out _ _ ?_
          clear hZK11 ZK11
          try simp only [Act.put, List.setIfInBounds_toArray, List.set_cons_zero, List.set_cons_succ]
          go_wp2
          go_meet
          exact ⟨rfl, _, rfl, two_new _ _ _ _, HWB.out⟩
        · skip
          go_simp
          have HWB := Lib.hid (bel_go hww (al_b wi (.cells #[.int .i64 0, .int .i64 0] 28))).drew
          refine hKB.out _ _ ?_ (fun hHeld => ?_)
          · exact HSO.out _ HWB.out
          clear hKB KB
          try simp only [Act.put, List.setIfInBounds_toArray, List.set_cons_zero, List.set_cons_succ]
          refine wpAnyF_one (i := 5) (o := _) (by kernel_rfl) rfl (fun ZK12 hZK12 => ?_)
          go_simp; go_at_call 32; (with_reducible refine (HIN.out _ HWB.out).mono ?_); rintro e wI ⟨rfl, hbI⟩; have HWA := Lib.hid (bel_go HWB.out hbI); have HTW := Lib.hid (two_to (two_to (two_new wi _ _ 28) (Below.refl _ _).drew) hbI); clear hbI
          refine hZK12.out _ _ ?_ (fun hHeld => ?_)
          · exact HSO.out _ HWA.out
          clear hZK12 ZK12
          try simp only [Act.put, List.setIfInBounds_toArray, List.set_cons_zero, List.set_cons_succ]
          refine wpAnyF_take (i := 6) (oi := _) (v := ?zv13) rfl (by kernel_rfl) (by kernel_rfl) (by kernel_rfl) (by kernel_rfl) (by kernel_rfl) (by kernel_rfl) (by kernel_rfl) (by kernel_rfl) (fun _ _ _ h => h) (Or.inl ⟨by rfl, ?zy13⟩) (by assumption) ?zr13
          case zy13 => (intro w hSw; (try dsimp only at hSw); go_simp; try (with_reducible rfl))
          try simp only [Act.put, List.setIfInBounds_toArray, List.set_cons_zero, List.set_cons_succ]
          refine wpAnyF_take (i := 7) (oi := _) (v := ?zv14) rfl (by kernel_rfl) (by kernel_rfl) (by kernel_rfl) (by kernel_rfl) (by kernel_rfl) (by kernel_rfl) (by kernel_rfl) (by kernel_rfl) (fun _ _ _ h => h) (Or.inl ⟨by rfl, ?zy14⟩) (by assumption) ?zr14
          case zy14 => (intro w hSw; (try dsimp only at hSw); go_simp; try (with_reducible rfl))
          try simp only [Act.put, List.setIfInBounds_toArray, List.set_cons_zero, List.set_cons_succ]
          refine wpAnyF_take (i := 8) (oi := _) (v := ?zv15) rfl (by kernel_rfl) (by kernel_rfl) (by kernel_rfl) (by kernel_rfl) (by kernel_rfl) (by kernel_rfl) (by kernel_rfl) (by kernel_rfl) (fun _ _ _ h => h) (Or.inl ⟨by rfl, ?zy15⟩) (by assumption) ?zr15
          case zy15 => (intro w hSw; (try dsimp only at hSw); go_simp; try (with_reducible rfl))
          try simp only [Act.put, List.setIfInBounds_toArray, List.set_cons_zero, List.set_cons_succ]
          refine wpAnyF_take (i := 10) (oi := _) (v := ?zv16) rfl (by kernel_rfl) (by kernel_rfl) (by kernel_rfl) (by kernel_rfl) (by kernel_rfl) (by kernel_rfl) (by kernel_rfl) (by kernel_rfl) (fun _ _ _ h => h) (Or.inl ⟨by rfl, ?zy16⟩) (by assumption) ?zr16
          case zy16 => (intro w hSw; (try dsimp only at hSw); go_simp; try (with_reducible rfl))
          try simp only [Act.put, List.setIfInBounds_toArray, List.set_cons_zero, List.set_cons_succ]
          obtain ⟨_, y0, y1, z0, z1⟩ := HTW.out
          refine wpAnyF_end (o := _) (by kernel_rfl) rfl (by kernel_rfl) (fun ZK17 hZK17 => ?_)
          go_simp
          refine hZK17.out _ _ ?_
          clear hZK17 ZK17
          try simp only [Act.put, List.setIfInBounds_toArray, List.set_cons_zero, List.set_cons_succ]
          go_wp2
          go_meet
          exact ⟨rfl, _, rfl, HTW.out.set _ _, (HWA.out.setCell (by simp) _).setCell (by simp) _⟩
      case rest =>
        obtain ⟨rfl, g, rfl, htw, hbx⟩ := hcut
        have hBX := HI.out.trans (hbx.mono HI.out.size)
        have HOX := Lib.hid (own_to HO.out (hBX.mono (Nat.le_refl _)))
        have HWX := Lib.hid (HW.out.trans (hBX.mono hsz))
        have hci := HCC.out _ hBX
        have hi1 : cl.length = 1 → indB x cl = true := HONE.out cl HCS.out
        obtain ⟨bq, oq, rfl, hbq, hcq⟩ := (HCL.out _ hBX).lst.nums (by omega)
        have HCQ := Lib.hid (nums_news (fun k h => hcq k h))
        have hsx : w6.heap.size ≤ wc.heap.size := HWX.out.size
        obtain ⟨_, k0, k1, _, _⟩ := htw
        have d0 : ((cl.length : Int) == 0) = false := by rw [beq_eq_false_iff_ne]; omega
        have d00 : (cl.length == 0) = false := by rw [beq_eq_false_iff_ne]; omega
        clear hbx hBX hcq
        by_cases h1 : cl.length = 1
        · have d1 : ((cl.length : Int) == 1) = true := by simp; omega
          have d11 : (cl.length == 1) = true := by simp; omega
          rw [hi1 h1]
          have HL1 := Lib.hid h1
          clear h1 hi1
          (go_wp2_with (at_builtin; refine wpList_append_own_at _ rfl _ _ 22 rfl (w6.heap.size) 3 i0 (.int .i64 0) 1 8 Tryd.underlying22 hi hz0 hz1 hz2 rfl (by decide) _ _ _ rfl HOX.out ⟨bq, oq, none⟩ cl.length ck (cl.map (Value.int .i64)) rfl (by simp) HCQ.out ?h3 ?h4 ?h5 ?h6 ?_); (case h3 => intro u hu; first | rfl | (rw [List.mem_map] at hu; obtain ⟨z, _, rfl⟩ := hu; rfl)); (case h4 => unfold maxLen; omega); (case h5 => omega); (try case h6 => exact hsx); intro v3 w3 hown3 hgrow3 _ _; have HW3 := Lib.hid (Below.grown (B := w6.heap.size) HWX.out hgrow3 hsx (fun q hq => (HOX.out.lt q hq).1)); have HO3 := Lib.hid hown3; clear hown3 hgrow3; go_wp2; go_roundw; (case rel => exact ⟨k + 1, by omega, by go_num, HW3.out, by rw [HST.out]; simpa using HO3.out⟩); (case measure => simp [intOf]; omega))
        · have d1 : ((cl.length : Int) == 1) = false := by simp; omega
          have d11 : (cl.length == 1) = false := by simp; omega
          clear h1 hi1
          generalize indB x cl = q at *
          (go_wp2_with (at_builtin; refine wpList_append_own_at _ rfl _ _ 22 rfl (w6.heap.size) 3 i0 (.int .i64 0) 1 8 Tryd.underlying22 hi hz0 hz1 hz2 rfl (by decide) _ _ _ rfl HOX.out ⟨bq, oq, none⟩ cl.length ck (cl.map (Value.int .i64)) rfl (by simp) HCQ.out ?h3 ?h4 ?h5 ?h6 ?_); (case h3 => intro u hu; first | rfl | (rw [List.mem_map] at hu; obtain ⟨z, _, rfl⟩ := hu; rfl)); (case h4 => unfold maxLen; omega); (case h5 => omega); (try case h6 => exact hsx); intro v3 w3 hown3 hgrow3 _ _; have HW3 := Lib.hid (Below.grown (B := w6.heap.size) HWX.out hgrow3 hsx (fun q hq => (HOX.out.lt q hq).1)); have HO3 := Lib.hid hown3; clear hown3 hgrow3; go_wp2; go_roundw; (case rel => exact ⟨k + 1, by omega, by go_num, HW3.out, by rw [HST.out]; simpa using HO3.out⟩); (case measure => simp [intOf]; omega))
end Go.Proofs.YtiaobanloakplaaDoor
