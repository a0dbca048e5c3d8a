/- The law MultiStripsMatchesSpec: the walk, second half. -/
import Derived.Test.YthlafcmabeiagaaMl6
namespace Go.Proofs.Ythlafcmabeiagaa
open Go.RowKit
set_option linter.unusedSimpArgs false
set_option linter.unusedVariables false
set_option maxRecDepth 100000

theorem has_q {A : Option Addr} {c : Nat} {l : List Int} {z : Int} {b : Bool} {w : World} (hL : Lst w w.heap.size A c l) (h : hasB l z = b) :
    Calls Try.prog 26 #[.slice A l.length c, .int .i64 z] w fun e w' => e = .returned (.bool b) ∧ w' = w := by
  subst h; exact (has_any A c l z w hL.nums hL.len).mono fun _ _ h => ⟨h.1, h.2.symm⟩
theorem ass_q {A : Option Addr} {c : Nat} {l : List Asg} {v z : Int} {w : World} (hL : AsgL w w.heap.size A c l) :
    Calls Try.prog 27 #[.slice A l.length c, .int .i64 v, .int .i64 z] w fun e w' => e = .returned (.bool (agB l v z)) ∧ w' = w := (assigned_any A c l v z w hL).mono fun _ _ h => ⟨h.1, h.2.symm⟩
theorem set_q {A : Option Addr} {c : Nat} {l : List Asg} {v : Int} {w : World} (hL : AsgL w w.heap.size A c l) :
    Calls Try.prog 28 #[.slice A l.length c, .int .i64 v] w fun e w' => e = .returned (.bool (vsB l v)) ∧ w' = w := (sets_any A c l v w hL).mono fun _ _ h => ⟨h.1, h.2.symm⟩
theorem dec_beq (a b : Int) : decide (a = b) = (a == b) := by by_cases h : a = b <;> simp [h]
theorem drn {W : World} {B n : Nat} {a : Option Addr} {c : Nat} {l : List Int} (h : Lst W W.heap.size a c l) : Lst (W.drewN n) (W.drewN n).heap.size a c l := h.to (dr_b W n) (dr_b W n).size
set_option maxHeartbeats 16000000 in
theorem ss_good (x : MT) (w : World) (hX : MTIn w w.heap.size x) (hr : (msF x).1 = 0) :
    Calls Try.prog 6 #[.agg #[.slice x.az x.sizes.length x.cz, .slice x.ai x.init.length x.ci, .slice x.ag x.goal.length x.cg, .slice x.ao x.ops.length x.co]] w fun e w' => e = .returned (.bool true) ∧ Below w.heap.size w w' := by
  have HB0 := Lib.hid (al_b w (.cells #[.slice x.az x.sizes.length x.cz, .slice x.ai x.init.length x.ci, .slice x.ag x.goal.length x.cg, .slice x.ao x.ops.length x.co] 26))
  have HBX := Lib.hid (mbox_new w x 26)
  have HNF := Lib.hid (multiFault_any x _ (hX.to HB0.out HB0.out.size))
  obtain ⟨h0, h24, hmz⟩ := ms_of hr
  obtain ⟨hv, hz⟩ := mf_val h0
  have HST := Lib.hid (fun (W : World) (h : Below w.heap.size w W) => (strips_any x W (hX.to h h.size)).mono fun e w' (q : StrP W x e w') => show ∃ y : Tsk, e = .returned (.tuple #[.agg #[.int .i64 y.n, .slice y.ai y.init.length y.ci, .slice y.ag y.goal.length y.cg, .slice y.ao y.ops.length y.co], faultV (0, 0)]) ∧ TskIn w' w'.heap.size y ∧ Below W.heap.size W w' ∧ IsSt x y by
    obtain ⟨y, he, hy, hb, hc, _⟩ := q
    rw [hmz] at he
    obtain ⟨e1, e2, e3, e4⟩ := hc hr
    exact ⟨y, he, hy, hb, ⟨e1, e2, e3, e4⟩⟩)
  rw [hz] at HNF
  have hd : decide (24 < smN x.sizes x.sizes.length) = false := decide_eq_false (by omega)
  have HX0 := Lib.hid (fun (W : World) (h : Below w.heap.size w W) => hX.to h h.size)
  have HV := Lib.hid hv
  have H24 := Lib.hid h24
  have h8 := hv.sz.n8
  have hno := hv.m
  have HML := Lib.hid (ms_len hv.init)
  clear hX h0 hv hz h24 hr hmz
  go_enter Try.func6, Try.ntmps6
  go_wp2_with (go_at_call 7; (with_reducible refine HNF.out.mono ?_); rintro e wF ⟨rfl, hb⟩; have hN := Lib.hid (wm_new (HB0.out.trans (hb.mono HB0.out.size)) (HBX.out.to hb HBX.out.lt) 0 0); clear hb; obtain ⟨_, ⟨_, t0, t1, t2, t3⟩, _, ⟨_, k0, k1, f0, f1⟩⟩ := hN.out)
  generalize wF.heap.size = g at *
  go_loopw [4, 5] (fun v i wr => ∃ k : Nat, k ≤ x.sizes.length ∧ i = .int .i64 k ∧ v = .int .i64 (smN x.sizes k) ∧ WM w wr x g 0 0) (fun _ i _ => x.sizes.length - (intOf i).toNat)
  case atStart => exact ⟨0, by omega, rfl, rfl, hN.out⟩
  case round =>
    clear t0 t1 t2 t3 k0 k1 f0 f1 hN
    obtain ⟨k, hk, rfl, rfl, hm⟩ := hrel
    have hN := Lib.hid hm
    clear hm
    obtain ⟨_, ⟨_, t0, t1, t2, t3⟩, _, ⟨_, k0, k1, f0, f1⟩⟩ := hN.out
    by_cases hlt : k < x.sizes.length
    case pos =>
      obtain ⟨b, o, haz, _, hc⟩ := (HX0.out _ hN.out.below).sizes.nums.at_ hlt
      rw [haz] at t0
      have h1 := smN_le HV.out.sz (k + 1) (by omega)
      have hst : smN x.sizes (k + 1) = smN x.sizes k + ix x.sizes k := rfl
      rw [hst] at h1
      have hw1 : IntKind.i64.wrap (smN x.sizes k + ix x.sizes k) = smN x.sizes k + ix x.sizes k := IntWalk.i64_in _ (by omega)
      have HAZ := Lib.hid haz
      have HST2 := Lib.hid hst
      clear haz h1 hst
      go_wp2
      go_roundw
      case rel => exact ⟨k + 1, by omega, by go_num, by rw [HST2.out], hN.out⟩
      case measure => simp [intOf]; omega
    case neg =>
      obtain rfl : k = x.sizes.length := by omega
      have hge : ¬ ((x.sizes.length : Int) < x.sizes.length) := by omega
      go_wp2_with (first | (go_at_call 22; (with_reducible refine (HST.out _ hN.out.below).mono ?_); rintro e wS ⟨y, rfl, hy, hb, his⟩; have hW := Lib.hid (sw_new (y := y) 0 0 (hN.out.to hb) hy); have HIS := Lib.hid his; have hyn : (y.n == smN x.sizes x.sizes.length) = true := (by rw [his.n]; simp); have hyn2 : (y.n != smN x.sizes x.sizes.length) = false := (by rw [his.n]; simp); have hyo : ((y.ops.length : Int) == (x.ops.length : Int)) = true := (by simp [st_ops his]); have hyo2 : ((y.ops.length : Int) != (x.ops.length : Int)) = false := (by simp [st_ops his]); clear hy hb his; obtain ⟨⟨_, ⟨_, t0, t1, t2, t3⟩, ⟨_, s0, s1, s2, s3, _⟩, _⟩, ⟨_, k0, k1, f0, f1⟩, ⟨_, l0, l1, _, _⟩⟩ := hW.out) | (go_at_call 8; (with_reducible refine (turns_any _).mono ?_); rintro e wT ⟨rfl, hb⟩; have hW := Lib.hid (hW.out.to hb); clear hb; obtain ⟨⟨_, ⟨_, t0, t1, t2, t3⟩, ⟨_, s0, s1, s2, s3, _⟩, _⟩, ⟨_, k0, k1, f0, f1⟩, ⟨_, l0, l1, _, _⟩⟩ := hW.out))
      have hM := Lib.hid hW.out.sm
      generalize wS.heap.size = gy at *
      clear t0 t1 t2 t3 s0 s1 s2 s3 k0 k1 f0 f1 l0 l1 hN
      clear hW
      go_loopw [8, 9] (fun z i wr => ∃ v : Nat, v ≤ x.sizes.length ∧ i = .int .i64 v ∧ z = .int .i64 (smN x.sizes v) ∧ SM w wr x y gy) (fun _ i _ => x.sizes.length - (intOf i).toNat)
      case atStart => exact ⟨0, by omega, rfl, rfl, hM.out⟩
      case round =>
        clear hM
        obtain ⟨v, hv, rfl, rfl, hm⟩ := hrel
        have hM := Lib.hid hm
        clear hm
        obtain ⟨_, ⟨_, t0, t1, t2, t3⟩, ⟨_, s0, s1, s2, s3, _⟩, _⟩ := hM.out
        by_cases hlv : v < x.sizes.length
        case neg =>
          obtain rfl : v = x.sizes.length := by omega
          have hgv : ¬ ((x.sizes.length : Int) < x.sizes.length) := by omega
          have HSV := Lib.hid (validate_any y _ hM.out.tk)
          rw [strips_valid HV.out H24.out HIS.out.n HIS.out.init HIS.out.goal HIS.out.ops] at HSV
          go_wp2_with (go_at_call 25; (with_reducible refine HSV.out.mono ?_); rintro e wV ⟨rfl, hb⟩; have hM := Lib.hid (hM.out.to hb); clear hb)
          go_ret
          exact ⟨rfl, hM.out.below⟩
        case pos =>
          obtain ⟨n, hn⟩ := Int.eq_ofNat_of_zero_le (show 0 ≤ ix x.sizes v by have := HV.out.sz.r v hlv; omega)
          have HN := Lib.hid hn
          have hn6 : n ≤ 6 := by have := HV.out.sz.r v hlv; omega
          have hsm := smN_le HV.out.sz v (by omega)
          have hst : smN x.sizes (v + 1) = smN x.sizes v + n := by rw [← hn]; rfl
          have HS2 := Lib.hid hst
          have hwS : IntKind.i64.wrap (smN x.sizes v + (n : Int)) = smN x.sizes v + (n : Int) := IntWalk.i64_in _ (by omega)
          clear hn hst
          go_wp2
          clear t0 t1 t2 t3 s0 s1 s2 s3
          go_loopw [10] (fun i wr => ∃ e : Nat, e ≤ n ∧ i = .int .i64 e ∧ SM w wr x y gy) (fun i _ => n - (intOf i).toNat)
          case atStart => exact ⟨0, by omega, rfl, hM.out⟩
          case round =>
            clear hM
            obtain ⟨e, he, rfl, hm⟩ := hrel
            have hM := Lib.hid hm
            clear hm
            obtain ⟨_, ⟨_, t0, t1, t2, t3⟩, ⟨_, s0, s1, s2, s3, _⟩, _⟩ := hM.out
            obtain ⟨bz, oz, haz, _, hcz⟩ := (HX0.out _ hM.out.below).sizes.nums.at_ hlv
            rw [HN.out] at hcz
            rw [haz] at t0
            have HAZ := Lib.hid haz
            clear haz
            by_cases hle : e < n
            case neg =>
              obtain rfl : e = n := by omega
              have hgn : ¬ ((e : Int) < e) := by omega
              go_wp2
              go_roundw
              case rel => exact ⟨v + 1, by omega, by go_num, by rw [HS2.out], hM.out⟩
              case measure => simp [intOf]; omega
            case pos =>
              have hx : 0 ≤ (e : Int) ∧ (e : Int) < ix x.sizes v := by rw [HN.out]; omega
              have hwP : IntKind.i64.wrap (smN x.sizes v + (e : Int)) = (smN x.sizes v + (e : Int)) := IntWalk.i64_in _ (by omega)
              have hlv2 : v < x.init.length := by have := HML.out; omega
              obtain ⟨bi, oi, hai, _, hci⟩ := (HX0.out _ hM.out.below).init.nums.at_ hlv2
              rw [hai] at t1
              have HAI := Lib.hid hai
              have H1 := Lib.hid (fun (m : Nat) => has_q (z := (smN x.sizes v + (e : Int))) (b := (ix x.init v == (e : Int))) (drn (B := 0) (n := m) hM.out.tk.init) (by rw [HIS.out.init, ← dec_beq]; exact hasB_in HV.out.sz HV.out.init hlv hx))
              have H2 := Lib.hid (fun (m : Nat) => has_q (z := (smN x.sizes v + (e : Int))) (b := agB x.goal v e) (drn (B := 0) (n := m) hM.out.tk.goal) (by rw [HIS.out.goal]; exact hasB_gv HV.out.sz HV.out.goal hlv hx))
              have H3 := Lib.hid (fun (m : Nat) => ass_q (v := (v : Int)) (z := (e : Int)) ((HX0.out _ hM.out.below).goal.to (dr_b wr m) (dr_b wr m).size))
              have HXX := Lib.hid hx
              clear hai hx
              go_wp2
              go_quiet ((first | (go_at_call 26; first | with_reducible exact Calls.quiet_of_same (H1.out _) | with_reducible exact Calls.quiet_of_same (H2.out _)) | (go_at_call 27; with_reducible exact Calls.quiet_of_same (H3.out _))))
              go_wp2
              clear t0 t1 t2 t3 s0 s1 s2 s3 hcz hci
              go_loopw [12] (fun i wr => ∃ k : Nat, k ≤ x.ops.length ∧ i = .int .i64 k ∧ SM w wr x y gy) (fun i _ => x.ops.length - (intOf i).toNat)
              case atStart => exact ⟨0, by omega, rfl, hM.out.to (dr_b _ _)⟩
              case round =>
                clear hM H1 H2 H3
                obtain ⟨k, hk, rfl, hm⟩ := hrel
                have hM := Lib.hid hm
                clear hm
                obtain ⟨_, ⟨_, t0, t1, t2, t3⟩, ⟨_, s0, s1, s2, s3, _⟩, _⟩ := hM.out
                by_cases hlk : k < x.ops.length
                case neg =>
                  obtain rfl : k = x.ops.length := by omega
                  have hgk : ¬ ((x.ops.length : Int) < x.ops.length) := by omega
                  go_wp2
                  go_roundw
                  case rel => exact ⟨e + 1, by omega, by go_num, hM.out⟩
                  case measure => simp [intOf]; omega
                case pos =>
                  have hlk2 : k < y.ops.length := by rw [st_ops HIS.out]; exact hlk
                  obtain ⟨b, p, a1, a2, a3, c1, c2, c3, hao, _, ⟨q0, q1, q2, q3⟩, hopv⟩ := hM.out.tk.ops.at_ hlk2
                  obtain ⟨b', p', e1, e2, d1, d2, hbo, _, ⟨r0, r1, r2⟩, hpr, hps⟩ := (HX0.out _ hM.out.below).ops.at_ hlk
                  have hop : opr y.ops k = opS x.sizes (mop x.ops k) := by rw [HIS.out.ops]; simp [opr, mop, List.getD, hlk]
                  have hcs : ((opr y.ops k).cost == (mop x.ops k).cost) = true := by rw [hop]; simp [opS]
                  have hcs2 : ((opr y.ops k).cost != (mop x.ops k).cost) = false := by rw [hop]; simp [opS]
                  rw [hao] at s3
                  rw [hbo] at t3
                  have HAO := Lib.hid hao
                  have HBO := Lib.hid hbo
                  have hw2 : Below wr.heap.size wr ((wr.alloc (.cells #[.slice a1 (opr y.ops k).pre.length c1, .slice a2 (opr y.ops k).add.length c2, .slice a3 (opr y.ops k).del.length c3, .int .i64 (opr y.ops k).cost] 59)).alloc (.cells #[.slice e1 (mop x.ops k).pre.length d1, .slice e2 (mop x.ops k).post.length d2, .int .i64 (mop x.ops k).cost] 35)) := (al_b wr (.cells #[.slice a1 (opr y.ops k).pre.length c1, .slice a2 (opr y.ops k).add.length c2, .slice a3 (opr y.ops k).del.length c3, .int .i64 (opr y.ops k).cost] 59)).trans ((al_b (wr.alloc (.cells #[.slice a1 (opr y.ops k).pre.length c1, .slice a2 (opr y.ops k).add.length c2, .slice a3 (opr y.ops k).del.length c3, .int .i64 (opr y.ops k).cost] 59)) (.cells #[.slice e1 (mop x.ops k).pre.length d1, .slice e2 (mop x.ops k).post.length d2, .int .i64 (mop x.ops k).cost] 35)).mono (al_b wr (.cells #[.slice a1 (opr y.ops k).pre.length c1, .slice a2 (opr y.ops k).add.length c2, .slice a3 (opr y.ops k).del.length c3, .int .i64 (opr y.ops k).cost] 59)).size)
                  have G1 := Lib.hid (fun (m : Nat) => has_q (z := (smN x.sizes v + (e : Int))) (b := agB (mop x.ops k).pre v e) (drn (B := 0) (n := m) (hopv.pre.to hw2 hw2.size)) (by rw [hop]; exact hasB_gv HV.out.sz (HV.out.pre k hlk) hlv HXX.out))
                  have G2 := Lib.hid (fun (m : Nat) => has_q (z := (smN x.sizes v + (e : Int))) (b := agB (mop x.ops k).post v e) (drn (B := 0) (n := m) (hopv.add.to hw2 hw2.size)) (by rw [hop]; exact hasB_gv HV.out.sz (HV.out.post k hlk) hlv HXX.out))
                  have G3 := Lib.hid (fun (m : Nat) => has_q (z := (smN x.sizes v + (e : Int))) (b := (vsB (mop x.ops k).post v && !agB (mop x.ops k).post v e)) (drn (B := 0) (n := m) (hopv.del.to hw2 hw2.size)) (by rw [hop]; exact hasB_ot HV.out.sz (HV.out.post k hlk) hlv HXX.out))
                  have G4 := Lib.hid (fun (m : Nat) => ass_q (v := (v : Int)) (z := (e : Int)) ((hpr.to hw2 hw2.size).to (dr_b ((wr.alloc (.cells #[.slice a1 (opr y.ops k).pre.length c1, .slice a2 (opr y.ops k).add.length c2, .slice a3 (opr y.ops k).del.length c3, .int .i64 (opr y.ops k).cost] 59)).alloc (.cells #[.slice e1 (mop x.ops k).pre.length d1, .slice e2 (mop x.ops k).post.length d2, .int .i64 (mop x.ops k).cost] 35)) m) (dr_b ((wr.alloc (.cells #[.slice a1 (opr y.ops k).pre.length c1, .slice a2 (opr y.ops k).add.length c2, .slice a3 (opr y.ops k).del.length c3, .int .i64 (opr y.ops k).cost] 59)).alloc (.cells #[.slice e1 (mop x.ops k).pre.length d1, .slice e2 (mop x.ops k).post.length d2, .int .i64 (mop x.ops k).cost] 35)) m).size))
                  have G5 := Lib.hid (fun (m : Nat) => ass_q (v := (v : Int)) (z := (e : Int)) ((hps.to hw2 hw2.size).to (dr_b ((wr.alloc (.cells #[.slice a1 (opr y.ops k).pre.length c1, .slice a2 (opr y.ops k).add.length c2, .slice a3 (opr y.ops k).del.length c3, .int .i64 (opr y.ops k).cost] 59)).alloc (.cells #[.slice e1 (mop x.ops k).pre.length d1, .slice e2 (mop x.ops k).post.length d2, .int .i64 (mop x.ops k).cost] 35)) m) (dr_b ((wr.alloc (.cells #[.slice a1 (opr y.ops k).pre.length c1, .slice a2 (opr y.ops k).add.length c2, .slice a3 (opr y.ops k).del.length c3, .int .i64 (opr y.ops k).cost] 59)).alloc (.cells #[.slice e1 (mop x.ops k).pre.length d1, .slice e2 (mop x.ops k).post.length d2, .int .i64 (mop x.ops k).cost] 35)) m).size))
                  have G6 := Lib.hid (fun (m : Nat) => set_q (v := (v : Int)) ((hps.to hw2 hw2.size).to (dr_b ((wr.alloc (.cells #[.slice a1 (opr y.ops k).pre.length c1, .slice a2 (opr y.ops k).add.length c2, .slice a3 (opr y.ops k).del.length c3, .int .i64 (opr y.ops k).cost] 59)).alloc (.cells #[.slice e1 (mop x.ops k).pre.length d1, .slice e2 (mop x.ops k).post.length d2, .int .i64 (mop x.ops k).cost] 35)) m) (dr_b ((wr.alloc (.cells #[.slice a1 (opr y.ops k).pre.length c1, .slice a2 (opr y.ops k).add.length c2, .slice a3 (opr y.ops k).del.length c3, .int .i64 (opr y.ops k).cost] 59)).alloc (.cells #[.slice e1 (mop x.ops k).pre.length d1, .slice e2 (mop x.ops k).post.length d2, .int .i64 (mop x.ops k).cost] 35)) m).size))
                  have HW2 := Lib.hid hw2
                  clear hao hbo hop hopv hpr hps hw2
                  generalize agB (mop x.ops k).pre v e = bp at *
                  generalize agB (mop x.ops k).post v e = bq at *
                  cases hvs : vsB (mop x.ops k).post (v : Int)
                  · rw [hvs] at G3 G6
                    clear hvs
                    go_wp2
                    go_quiet ((first | (go_at_call 26; first | with_reducible exact Calls.quiet_of_same (G1.out _) | with_reducible exact Calls.quiet_of_same (G2.out _) | with_reducible exact Calls.quiet_of_same (G3.out _)) | (go_at_call 27; first | with_reducible exact Calls.quiet_of_same (G4.out _) | with_reducible exact Calls.quiet_of_same (G5.out _)) | (go_at_call 28; with_reducible exact Calls.quiet_of_same (G6.out _))))
                    go_wp2
                    go_roundw
                    case rel => exact ⟨k + 1, by omega, by go_num, (hM.out.to HW2.out).to (dr_b _ _)⟩
                    case measure => simp [intOf]; omega
                  · rw [hvs] at G3 G6
                    clear hvs
                    go_wp2
                    go_quiet ((first | (go_at_call 26; first | with_reducible exact Calls.quiet_of_same (G1.out _) | with_reducible exact Calls.quiet_of_same (G2.out _) | with_reducible exact Calls.quiet_of_same (G3.out _)) | (go_at_call 27; first | with_reducible exact Calls.quiet_of_same (G4.out _) | with_reducible exact Calls.quiet_of_same (G5.out _)) | (go_at_call 28; with_reducible exact Calls.quiet_of_same (G6.out _))))
                    go_wp2
                    go_roundw
                    case rel => exact ⟨k + 1, by omega, by go_num, (hM.out.to HW2.out).to (dr_b _ _)⟩
                    case measure => simp [intOf]; omega
theorem stspec_any (x : MT) (w : World) (hX : MTIn w w.heap.size x) : Calls Try.prog 6 #[.agg #[.slice x.az x.sizes.length x.cz, .slice x.ai x.init.length x.ci, .slice x.ag x.goal.length x.cg, .slice x.ao x.ops.length x.co]] w fun e w' => e = .returned (.bool true) ∧ Below w.heap.size w w' := by
  by_cases h0 : (mfF x).1 = 0
  · by_cases h : (msF x).1 = 0
    · exact ss_good x w hX h
    · refine ss_large x w hX h0 ?_
      unfold msF at h
      rw [if_neg (by simp [h0])] at h
      split at h
      · assumption
      · exact absurd rfl h
  · exact ss_fault x w hX h0
end Go.Proofs.Ythlafcmabeiagaa
