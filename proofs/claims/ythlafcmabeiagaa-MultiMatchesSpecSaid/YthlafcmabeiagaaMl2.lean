/- The law MultiMatchesSpec: good tasks and states. -/
import Derived.Test.YthlafcmabeiagaaMl1
namespace Go.Proofs.Ythlafcmabeiagaa
open Go.RowKit
set_option linter.unusedSimpArgs false
set_option linter.unusedVariables false
set_option maxRecDepth 100000

theorem sp1 (m : Nat) (op : Int) : spF m [op] = if inB op 0 ((m : Int) - 1) then (0, 0) else (3, -6) := by
  have h : planB m [op] = inB op 0 ((m : Int) - 1) := by
    show (List.range 1).all (stB m [op]) = _
    rw [show List.range 1 = [0] from rfl]
    simp only [List.all_cons, List.all_nil, Bool.and_true]
    rw [← stB_in]
    rfl
  unfold spF
  rw [if_neg (by simp), h]
theorem ck1 {x : MT} {s : List Int} (h0 : (mfF x).1 = 0) (hm : msB x.sizes s = true) (l : List Int) : ckM x s l = spF x.ops.length l := by
  unfold ckM; rw [if_neg (by simp [h0]), if_neg (by simp [hm])]
set_option maxHeartbeats 8000000 in
theorem mm_good (x : MT) (A : Option Addr) (c : Nat) (s : List Int) (op : Int) (w : World) (hX : MTIn w w.heap.size x) (hS : Lst w w.heap.size A c s) (hA : A = none → c = 0) (h0 : (mfF x).1 = 0) (hm : msB x.sizes s = true) :
    Calls Try.prog 3 #[.agg #[.slice x.az x.sizes.length x.cz, .slice x.ai x.init.length x.ci, .slice x.ag x.goal.length x.cg, .slice x.ao x.ops.length x.co], .slice A s.length c, .int .i64 op] w fun e w' => e = .returned (.bool true) ∧ Below w.heap.size w w' := by
  have HX0 := Lib.hid (fun (W : World) (h : Below w.heap.size w W) => hX.to h h.size)
  have HS0 := Lib.hid (fun (W : World) (h : Below w.heap.size w W) => hS.to h h.size)
  have HB0 := Lib.hid (al_b w (.cells #[.slice x.az x.sizes.length x.cz, .slice x.ai x.init.length x.ci, .slice x.ag x.goal.length x.cg, .slice x.ao x.ops.length x.co] 26))
  have HBX := Lib.hid (mbox_new w x 26)
  have HNF := Lib.hid (multiFault_any x _ (HX0.out _ HB0.out))
  have HNV := Lib.hid (fun (W : World) (h : MTIn W W.heap.size x) => mvalidate_any x W h)
  have HNA := Lib.hid (fun (W : World) (h : Below w.heap.size w W) => applicable_any x A c s W (HX0.out W h) (HS0.out W h))
  have HNB := Lib.hid (fun (W : World) (h : Below w.heap.size w W) => mapply_any x A c s op W (HX0.out W h) (HS0.out W h) hA)
  obtain ⟨hv, hz⟩ := mf_val h0
  have e0 : ckM x s [] = (0, 0) := by rw [ck1 h0 hm]; simp [spF, planB]
  have e1 : apL x s = (apN x.ops s x.ops.length) := by unfold apL; rw [e0]; rfl
  rw [e1, e0] at HNA
  rw [hz] at HNF HNV
  have e2 : ckM x s [op] = if inB op 0 ((x.ops.length : Int) - 1) then (0, 0) else (3, -6) := by rw [ck1 h0 hm, sp1]
  have HE2 := Lib.hid e2
  have HMS := Lib.hid (fun (W : World) (h : Below w.heap.size w W) => mstate_any x hv.sz A c s W (HX0.out W h).sizes (HS0.out W h))
  rw [hm] at HMS
  have HV := Lib.hid hv
  have HML := Lib.hid (ms_len hm)
  have hno := hv.m
  have hn8 := hv.sz.n8
  have hn1 := hv.sz.n1
  obtain ⟨i0, hi0, hz0, hz1, hz2⟩ := info_parts info_int
  have HAA := Lib.hid hA
  have HMS1 := Lib.hid hm
  clear hX hS e0 e1 e2 hv h0 hz hm hA
  go_enter Try.func3, Try.ntmps3
  go_wp2_with (go_at_call 7; (with_reducible refine HNF.out.mono ?_); rintro e wF ⟨rfl, hb⟩; have hN := Lib.hid (wm_new (HB0.out.trans (hb.mono HB0.out.size)) (HBX.out.to hb HBX.out.lt) 0 0); clear hb)
  generalize hg : wF.heap.size = g at *
  generalize hW : wF.alloc (.cells #[.int .i64 0, .int .i64 0] 28) = W1 at *
  clear hg hW
  have HSO := Lib.hid (fun (Y : World) (h : Below W1.heap.size W1 Y) => (⟨(hN.out.to h).box.c0, (hN.out.to h).box.c1, (hN.out.to h).box.c2, (hN.out.to h).box.c3, (hN.out.to h).two.fst, (hN.out.to h).two.snd, h⟩ : Y.cell? ⟨w.heap.size, 0, none⟩ = some (.slice x.az x.sizes.length x.cz) ∧ Y.cell? ⟨w.heap.size, 1, none⟩ = some (.slice x.ai x.init.length x.ci) ∧ Y.cell? ⟨w.heap.size, 2, none⟩ = some (.slice x.ag x.goal.length x.cg) ∧ Y.cell? ⟨w.heap.size, 3, none⟩ = some (.slice x.ao x.ops.length x.co) ∧ Y.cell? ⟨g, 0, none⟩ = some (.int .i64 0) ∧ Y.cell? ⟨g, 1, none⟩ = some (.int .i64 0) ∧ Below W1.heap.size W1 Y))
  have HX1 := Lib.hid (fun (Y : World) (h : Below W1.heap.size W1 Y) => HX0.out _ (hN.out.to h).below)
  have hww := Below.refl W1.heap.size W1
  go_region_held3 (fun Y => Y.cell? ⟨w.heap.size, 0, none⟩ = some (.slice x.az x.sizes.length x.cz) ∧ Y.cell? ⟨w.heap.size, 1, none⟩ = some (.slice x.ai x.init.length x.ci) ∧ Y.cell? ⟨w.heap.size, 2, none⟩ = some (.slice x.ag x.goal.length x.cg) ∧ Y.cell? ⟨w.heap.size, 3, none⟩ = some (.slice x.ao x.ops.length x.co) ∧ Y.cell? ⟨g, 0, none⟩ = some (.int .i64 0) ∧ Y.cell? ⟨g, 1, none⟩ = some (.int .i64 0) ∧ Below W1.heap.size W1 Y) (first | assumption | (refine ⟨?_, ?_, ?_, ?_, ?_, ?_, ?_⟩ <;> assumption) | (exact HSO.out _ hww.drew) | (exact HSO.out _ hww) | (exact HSO.out _ (bel_up (last7n (by assumption)) (by assumption))) | (exact HSO.out _ ((last7n (by assumption))).drew)) (first | (go_at_call 8; refine (turns_any _).mono ?_; rintro e wc ⟨rfl, hb⟩) | (go_at_call 9; refine (HNV.out _ (HX1.out _ (last7n (by assumption)))).mono ?_; rintro e wv ⟨rfl, hb⟩))
  all_goals
    have hM := Lib.hid (hN.out.to (last7n (by assumption)))
    obtain ⟨_, ⟨_, t0, t1, t2, t3⟩, _, ⟨_, k0, k1, f0, f1⟩⟩ := hM.out
    go_wp2_with (go_at_call 10; (with_reducible refine (HMS.out _ hM.out.below).mono ?_); rintro e w5 ⟨rfl, hb⟩; have hM := Lib.hid (hM.out.to hb); clear hb; obtain ⟨_, ⟨_, t0, t1, t2, t3⟩, _, ⟨_, k0, k1, f0, f1⟩⟩ := hM.out)
    clear t0 t1 t2 t3 k0 k1 f0 f1
    have hgl := hM.out.two.lt
    go_loopw [8, 9] (fun v i wr => ∃ k : Nat, k ≤ x.ops.length ∧ i = .int .i64 k ∧ wr.ownsRow (g + 1) 3 1 v (apN x.ops s k).length ((apN x.ops s k).map (Value.int .i64)) ∧ WM w wr x g 0 0) (fun _ i _ => x.ops.length - (intOf i).toNat)
    case atStart => exact ⟨0, by omega, rfl, World.ownsRow_nil _ _ _ _, hM.out⟩
    case round =>
      clear hM hgl
      obtain ⟨k, hk, rfl, ho, hm⟩ := hrel
      have hO := Lib.hid ho
      have hM := Lib.hid hm
      clear ho hm
      obtain ⟨_, ⟨_, t0, t1, t2, t3⟩, _, ⟨_, k0, k1, f0, f1⟩⟩ := hM.out
      by_cases hlt : k < x.ops.length
      case pos =>
        obtain ⟨b, p, a1, a2, c1, c2, hao, hbl, ⟨q0, q1, q2⟩, hpre, hpost⟩ := (HX0.out _ hM.out.below).ops.at_ hlt
        rw [hao] at t3
        have HAO := Lib.hid hao
        have HMH := Lib.hid (mholds_any x.sizes A a1 c c1 s (mop x.ops k).pre (HV.out.pre k hlt) HML.out wr (HS0.out _ hM.out.below) hpre)
        have hln := apN_len x.ops s k
        have hN9 : apN x.ops s (k + 1) = if holdB s (mop x.ops k).pre then apN x.ops s k ++ [(k : Int)] else apN x.ops s k := rfl
        clear hao hpre hpost
        cases hh : holdB s (mop x.ops k).pre
        · rw [hh] at HMH hN9
          have HN := Lib.hid (show apN x.ops s (k + 1) = apN x.ops s k from hN9)
          clear hN9 hh
          go_wp2_with (go_at_call 12; (with_reducible refine HMH.out.mono ?_); rintro e w5 ⟨rfl, hm5⟩; have hb5 : Below wr.heap.size wr w5 := (by obtain ⟨m, rfl⟩ := hm5; exact dr_b _ _); have hM := Lib.hid (hM.out.to hb5); have hO := Lib.hid (own_to hO.out hb5); clear hb5 hm5; obtain ⟨_, ⟨_, t0, t1, t2, t3⟩, _, ⟨_, k0, k1, f0, f1⟩⟩ := hM.out)
          go_roundw
          case rel => exact ⟨k + 1, by omega, by go_num, by rw [HN.out]; exact hO.out, hM.out⟩
          case measure => simp [intOf]; omega
        · rw [hh] at HMH hN9
          have HN := Lib.hid (show apN x.ops s (k + 1) = apN x.ops s k ++ [(k : Int)] from hN9)
          clear hN9 hh
          go_wp2_with (first | (go_at_call 12; (with_reducible refine HMH.out.mono ?_); rintro e w5 ⟨rfl, hm5⟩; have hb5 : Below wr.heap.size wr w5 := (by obtain ⟨m, rfl⟩ := hm5; exact dr_b _ _); have hM := Lib.hid (hM.out.to hb5); have hO := Lib.hid (own_to hO.out hb5); clear hb5 hm5; obtain ⟨_, ⟨_, t0, t1, t2, t3⟩, _, ⟨_, k0, k1, f0, f1⟩⟩ := hM.out) | (at_builtin; refine wpList_append_own _ rfl _ _ 22 rfl (g + 1) 3 i0 (.int .i64 0) 1 8 Try.underlying22 hi0 hz0 hz1 hz2 rfl (by decide) _ _ _ rfl (own_to hO.out (al_b w5 _)) ⟨w5.heap.size, 0, none⟩ 1 1 [.int .i64 (k : Int)] rfl rfl (news1 (cell_new _ _ _).1) (by simp [Value.oneCell']) (by unfold maxLen; omega) (by omega) (by have := hM.out.two.lt; simp; omega) ?_))
          intro v6 w6 hown6 hgrow6 _
          have hown7 : w6.ownsRow (g + 1) 3 1 v6 (apN x.ops s (k + 1)).length ((apN x.ops s (k + 1)).map (Value.int .i64)) := by rw [HN.out]; simp only [List.length_append, List.length_singleton, List.map_append, List.map_cons, List.map_nil]; exact hown6
          have HO6 := Lib.hid hown7
          have hB6 : Below (g + 1) w5 w6 := ((Below.refl (g + 1) w5).alloc (by have := hM.out.two.lt; omega) _).grown hgrow6 (by have := hM.out.two.lt; simp; omega) (fun q hq => (hO.out.lt q hq).1)
          have hM6 := Lib.hid (hM.out.toB hB6 (by omega))
          clear hown6 hgrow6 hown7 hB6
          go_wp2
          go_roundw
          case rel => exact ⟨k + 1, by omega, by go_num, HO6.out, hM6.out⟩
          case measure => simp [intOf]; omega
      case neg =>
        obtain rfl : k = x.ops.length := by omega
        have hge : ¬ ((x.ops.length : Int) < x.ops.length) := by omega
        obtain ⟨aw, cw, rfl, hlw, _⟩ := own_lst hO.out
        have HLW := Lib.hid (fun (W : World) (h : Below wr.heap.size wr W) => hlw.to h h.size)
        have hwm : IntKind.i64.wrap ((x.ops.length : Int) - 1) = (x.ops.length : Int) - 1 := IntWalk.i64_in _ (by omega)
        clear hlw
        cases hi : inB op 0 ((x.ops.length : Int) - 1)
        · have HIN := Lib.hid (fun (W : World) => in_any op 0 ((x.ops.length : Int) - 1) W)
          rw [hi] at HIN
          have he := HE2.out
          rw [hi] at he
          have e3 : apF x s op = (3, -6) := by unfold apF; rw [he]; rfl
          have e4 : apR x s op = [] := by unfold apR; rw [e3]; rfl
          rw [e3, e4] at HNB
          clear he e3 e4 hi
          go_wp2_with (first | (go_at_call 13; (with_reducible refine (HNA.out _ hM.out.below).mono ?_); rintro e wA ⟨vwA, rfl, ho, hb⟩; have hM := Lib.hid ((hM.out.to hb).to (al_b wA (.cells #[.int .i64 0, .int .i64 0] 28))); have hT := Lib.hid (two_new wA (.int .i64 0) (.int .i64 0) 28); have hBn := Lib.hid (hb.trans ((al_b wA (.cells #[.int .i64 0, .int .i64 0] 28)).mono hb.size)); obtain ⟨aA, cA, rfl, hl9, _⟩ := own_lst (l := (apN x.ops s x.ops.length)) ho; have HOaA := Lib.hid (hl9.to (al_b wA (.cells #[.int .i64 0, .int .i64 0] 28)) (al_b wA (.cells #[.int .i64 0, .int .i64 0] 28)).size); clear hb ho hl9; obtain ⟨_, ⟨_, t0, t1, t2, t3⟩, _, ⟨_, k0, k1, f0, f1⟩⟩ := hM.out; obtain ⟨_, l0, l1, _, _⟩ := hT.out) | (go_at_call 14; (with_reducible refine (ints_same aA aw cA cw (apN x.ops s x.ops.length) (apN x.ops s x.ops.length) rfl _ HOaA.out (HLW.out _ hBn.out)).mono ?_); rintro e wI ⟨rfl, hb⟩; have hM := Lib.hid (hM.out.to hb); clear hb; obtain ⟨_, ⟨_, t0, t1, t2, t3⟩, _, ⟨_, k0, k1, f0, f1⟩⟩ := hM.out; (first | (rw [HAO.out] at t3; obtain ⟨q0, q1, q2⟩ := HQ.out _ hM.out.below) | skip)) | (go_at_call 15; (with_reducible refine (HIN.out _).mono ?_); rintro e w' ⟨rfl, rfl⟩) | (go_at_call 11; refine (at_any _ _ _).mono ?_; rintro e w3 ⟨rfl, hb3⟩; have hM := Lib.hid (hM.out.to hb3); clear hb3; obtain ⟨_, ⟨_, t0, t1, t2, t3⟩, _, ⟨_, k0, k1, f0, f1⟩⟩ := hM.out) | (go_at_call 16; have hM := Lib.hid (hM.out.set 3 (-6)); (with_reducible refine (HNB.out _ hM.out.below).mono ?_); rintro e wB ⟨vwB, rfl, ho, hb⟩; have hM := Lib.hid ((hM.out.to hb).to (al_b wB (.cells #[.int .i64 3, .int .i64 (-6)] 28))); have hT := Lib.hid (two_new wB (.int .i64 3) (.int .i64 (-6)) 28); obtain ⟨aB, cB, rfl, hl9, _⟩ := own_lst (l := ([] : List Int)) ho; have HOaB := Lib.hid (hl9.to (al_b wB (.cells #[.int .i64 3, .int .i64 (-6)] 28)) (al_b wB (.cells #[.int .i64 3, .int .i64 (-6)] 28)).size); clear hb ho hl9; obtain ⟨_, ⟨_, t0, t1, t2, t3⟩, _, ⟨_, k0, k1, f0, f1⟩⟩ := hM.out; obtain ⟨_, l0, l1, _, _⟩ := hT.out))
          go_ret
          exact ⟨rfl, hM.out.below⟩
        · obtain ⟨g0, g1⟩ := inB_iff.1 hi
          obtain ⟨m, rfl⟩ := Int.eq_ofNat_of_zero_le g0
          have hmo : m < x.ops.length := by omega
          have HIN := Lib.hid (fun (W : World) => in_any (m : Int) 0 ((x.ops.length : Int) - 1) W)
          rw [hi] at HIN
          have he := HE2.out
          rw [hi] at he
          have e3 : apF x s (m : Int) = if holdB s (mop x.ops m).pre then (0, 0) else (11, (m : Int)) := by unfold apF; rw [he]; rfl
          have e4 : apR x s (m : Int) = if (apF x s (m : Int)).1 = 0 then aft s (mop x.ops m).post else [] := rfl
          obtain ⟨b, p, a1, a2, c1, c2, hao, hbl, hq0, hpre, hpost⟩ := (HX0.out w (Below.refl _ _)).ops.at_ hmo
          have HQ := Lib.hid (fun (W : World) (h : Below w.heap.size w W) => hq0.to h hbl)
          have HMH := Lib.hid (fun (W : World) (h : Below w.heap.size w W) => mholds_any x.sizes A a1 c c1 s (mop x.ops m).pre (HV.out.pre m hmo) HML.out W (HS0.out W h) (hpre.to h h.size))
          have hml := HML.out
          have HMA := Lib.hid (fun (W : World) (h : Below w.heap.size w W) => mafter_any x x.sizes A c s m hmo (HV.out.post m hmo) hml (by omega) (by omega) HAA.out W (HX0.out W h) (HS0.out W h))
          have HIT := Lib.hid (fun (a1 a2 : Option Addr) (c1 c2 : Nat) (W : World) (h1 : Lst W W.heap.size a1 c1 (aft s (mop x.ops m).post)) (h2 : Lst W W.heap.size a2 c2 (aft s (mop x.ops m).post)) => ints_same a1 a2 c1 c2 _ _ rfl W h1 h2)
          have HAO := Lib.hid hao
          clear he hpre hpost hq0 hi g0 hml hao
          cases hh : holdB s (mop x.ops m).pre
          · rw [hh] at e3 HMH
            have e3 : apF x s (m : Int) = (11, (m : Int)) := e3
            rw [e3, if_neg (by simp)] at e4
            rw [e3, e4] at HNB
            clear e3 e4 hh
            go_wp2_with (first | (go_at_call 13; (with_reducible refine (HNA.out _ hM.out.below).mono ?_); rintro e wA ⟨vwA, rfl, ho, hb⟩; have hM := Lib.hid ((hM.out.to hb).to (al_b wA (.cells #[.int .i64 0, .int .i64 0] 28))); have hT := Lib.hid (two_new wA (.int .i64 0) (.int .i64 0) 28); have hBn := Lib.hid (hb.trans ((al_b wA (.cells #[.int .i64 0, .int .i64 0] 28)).mono hb.size)); obtain ⟨aA, cA, rfl, hl9, _⟩ := own_lst (l := (apN x.ops s x.ops.length)) ho; have HOaA := Lib.hid (hl9.to (al_b wA (.cells #[.int .i64 0, .int .i64 0] 28)) (al_b wA (.cells #[.int .i64 0, .int .i64 0] 28)).size); clear hb ho hl9; obtain ⟨_, ⟨_, t0, t1, t2, t3⟩, _, ⟨_, k0, k1, f0, f1⟩⟩ := hM.out; obtain ⟨_, l0, l1, _, _⟩ := hT.out) | (go_at_call 14; (with_reducible refine (ints_same aA aw cA cw (apN x.ops s x.ops.length) (apN x.ops s x.ops.length) rfl _ HOaA.out (HLW.out _ hBn.out)).mono ?_); rintro e wI ⟨rfl, hb⟩; have hM := Lib.hid (hM.out.to hb); clear hb; obtain ⟨_, ⟨_, t0, t1, t2, t3⟩, _, ⟨_, k0, k1, f0, f1⟩⟩ := hM.out; (first | (rw [HAO.out] at t3; obtain ⟨q0, q1, q2⟩ := HQ.out _ hM.out.below) | skip)) | (go_at_call 15; (with_reducible refine (HIN.out _).mono ?_); rintro e w' ⟨rfl, rfl⟩) | (go_at_call 12; (with_reducible refine (HMH.out _ hM.out.below).mono ?_); rintro e w5 ⟨rfl, m7, hm5⟩; have hM := Lib.hid (hM.out.to (show Below wI.heap.size wI w5 by rw [hm5]; exact dr_b _ _)); clear hm5; obtain ⟨_, ⟨_, t0, t1, t2, t3⟩, _, ⟨_, k0, k1, f0, f1⟩⟩ := hM.out) | (go_at_call 11; refine (at_any _ _ _).mono ?_; rintro e w3 ⟨rfl, hb3⟩; have hM := Lib.hid (hM.out.to hb3); clear hb3; obtain ⟨_, ⟨_, t0, t1, t2, t3⟩, _, ⟨_, k0, k1, f0, f1⟩⟩ := hM.out) | (go_at_call 16; have hM := Lib.hid (hM.out.set 11 (m : Int)); (with_reducible refine (HNB.out _ hM.out.below).mono ?_); rintro e wB ⟨vwB, rfl, ho, hb⟩; have hM := Lib.hid ((hM.out.to hb).to (al_b wB (.cells #[.int .i64 11, .int .i64 (m : Int)] 28))); have hT := Lib.hid (two_new wB (.int .i64 11) (.int .i64 (m : Int)) 28); obtain ⟨aB, cB, rfl, hl9, _⟩ := own_lst (l := ([] : List Int)) ho; have HOaB := Lib.hid (hl9.to (al_b wB (.cells #[.int .i64 11, .int .i64 (m : Int)] 28)) (al_b wB (.cells #[.int .i64 11, .int .i64 (m : Int)] 28)).size); clear hb ho hl9; obtain ⟨_, ⟨_, t0, t1, t2, t3⟩, _, ⟨_, k0, k1, f0, f1⟩⟩ := hM.out; obtain ⟨_, l0, l1, _, _⟩ := hT.out))
            go_ret
            exact ⟨rfl, hM.out.below⟩
          · rw [hh] at e3 HMH
            have e3 : apF x s (m : Int) = (0, 0) := e3
            rw [e3, if_pos rfl] at e4
            rw [e3, e4] at HNB
            clear e3 e4 hh
            go_wp2_with (first | (go_at_call 13; (with_reducible refine (HNA.out _ hM.out.below).mono ?_); rintro e wA ⟨vwA, rfl, ho, hb⟩; have hM := Lib.hid ((hM.out.to hb).to (al_b wA (.cells #[.int .i64 0, .int .i64 0] 28))); have hT := Lib.hid (two_new wA (.int .i64 0) (.int .i64 0) 28); have hBn := Lib.hid (hb.trans ((al_b wA (.cells #[.int .i64 0, .int .i64 0] 28)).mono hb.size)); obtain ⟨aA, cA, rfl, hl9, _⟩ := own_lst (l := (apN x.ops s x.ops.length)) ho; have HOaA := Lib.hid (hl9.to (al_b wA (.cells #[.int .i64 0, .int .i64 0] 28)) (al_b wA (.cells #[.int .i64 0, .int .i64 0] 28)).size); clear hb ho hl9; obtain ⟨_, ⟨_, t0, t1, t2, t3⟩, _, ⟨_, k0, k1, f0, f1⟩⟩ := hM.out; obtain ⟨_, l0, l1, _, _⟩ := hT.out) | (go_at_call 14; (with_reducible refine (ints_same aA aw cA cw (apN x.ops s x.ops.length) (apN x.ops s x.ops.length) rfl _ HOaA.out (HLW.out _ hBn.out)).mono ?_); rintro e wI ⟨rfl, hb⟩; have hM := Lib.hid (hM.out.to hb); clear hb; obtain ⟨_, ⟨_, t0, t1, t2, t3⟩, _, ⟨_, k0, k1, f0, f1⟩⟩ := hM.out; (first | (rw [HAO.out] at t3; obtain ⟨q0, q1, q2⟩ := HQ.out _ hM.out.below) | skip)) | (go_at_call 15; (with_reducible refine (HIN.out _).mono ?_); rintro e w' ⟨rfl, rfl⟩) | (go_at_call 12; (with_reducible refine (HMH.out _ hM.out.below).mono ?_); rintro e w5 ⟨rfl, m7, hm5⟩; have hM := Lib.hid (hM.out.to (show Below wI.heap.size wI w5 by rw [hm5]; exact dr_b _ _)); clear hm5; obtain ⟨_, ⟨_, t0, t1, t2, t3⟩, _, ⟨_, k0, k1, f0, f1⟩⟩ := hM.out) | (go_at_call 16; (with_reducible refine (HNB.out _ hM.out.below).mono ?_); rintro e wB ⟨vwB, rfl, ho, hb⟩; have hM := Lib.hid ((hM.out.to hb).to (al_b wB (.cells #[.int .i64 0, .int .i64 0] 28))); have hT := Lib.hid (two_new wB (.int .i64 0) (.int .i64 0) 28); obtain ⟨aB, cB, rfl, hl9, _⟩ := own_lst (l := (aft s (mop x.ops m).post)) ho; have HOaB := Lib.hid (hl9.to (al_b wB (.cells #[.int .i64 0, .int .i64 0] 28)) (al_b wB (.cells #[.int .i64 0, .int .i64 0] 28)).size); clear hb ho hl9; obtain ⟨_, ⟨_, t0, t1, t2, t3⟩, _, ⟨_, k0, k1, f0, f1⟩⟩ := hM.out; obtain ⟨_, l0, l1, _, _⟩ := hT.out) | (go_at_call 17; (with_reducible refine (HMA.out _ hM.out.below).mono ?_); rintro e wD ⟨vD, rfl, ho, hb⟩; obtain ⟨aD, cD, rfl, hlD, _⟩ := own_lst ho; have HOaB := Lib.hid (HOaB.out.to hb hb.size); have HOaD := Lib.hid hlD; have hM := Lib.hid (hM.out.to hb); clear ho hb hlD; obtain ⟨_, ⟨_, t0, t1, t2, t3⟩, _, ⟨_, k0, k1, f0, f1⟩⟩ := hM.out) | (go_at_call 14; (with_reducible refine (HIT.out aB aD cB cD _ HOaB.out HOaD.out).mono ?_); rintro e wQ ⟨rfl, hb⟩; have hM := Lib.hid (hM.out.to hb); clear hb; obtain ⟨_, ⟨_, t0, t1, t2, t3⟩, _, ⟨_, k0, k1, f0, f1⟩⟩ := hM.out))
            go_ret
            exact ⟨rfl, hM.out.below⟩
theorem mmspec_any (x : MT) (A : Option Addr) (c : Nat) (s : List Int) (op : Int) (w : World) (hX : MTIn w w.heap.size x) (hS : Lst w w.heap.size A c s) (hA : A = none → c = 0) :
    Calls Try.prog 3 #[.agg #[.slice x.az x.sizes.length x.cz, .slice x.ai x.init.length x.ci, .slice x.ag x.goal.length x.cg, .slice x.ao x.ops.length x.co], .slice A s.length c, .int .i64 op] w fun e w' => e = .returned (.bool true) ∧ Below w.heap.size w w' := by
  by_cases h0 : (mfF x).1 = 0
  · cases hm : msB x.sizes s
    · exact mm_bad x A c s op w hX hS hA (5, -4) (by simp) (fun l => by unfold ckM; rw [if_neg (by simp [h0]), if_pos hm])
    · exact mm_good x A c s op w hX hS hA h0 hm
  · exact mm_bad x A c s op w hX hS hA (mfF x) h0 (fun l => by unfold ckM; rw [if_pos h0])
end Go.Proofs.Ythlafcmabeiagaa
