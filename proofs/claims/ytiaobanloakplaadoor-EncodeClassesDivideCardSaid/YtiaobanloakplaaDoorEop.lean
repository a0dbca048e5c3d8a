/- Package encode: operatorsOf. -/
import Derived.Test.YtiaobanloakplaaDoorEg2
namespace Go.Proofs.YtiaobanloakplaaDoor
open Go.RowKit
set_option linter.unusedSimpArgs false
set_option linter.unusedVariables false
set_option maxRecDepth 100000

theorem mkN_skip {os : List Opr} {cs : List (List Int)} {k : Nat} {ms : List MOp} {fr : List Int} (h : mkN os cs k = some (ms, fr)) (hr : rolsB (opr os k) cs = false) : mkN os cs (k + 1) = some (ms, fr) := by simp [mkN, h, hr]
theorem mkN_many {os : List Opr} {cs : List (List Int)} {k : Nat} {ms : List MOp} {fr : List Int} (h : mkN os cs k = some (ms, fr)) (hr : rolsB (opr os k) cs = true) (h40 : 40 < ms.length + numN (rols (opr os k) cs) cs.length) : mkN os cs (k + 1) = none := by simp [mkN, h, hr, h40]
theorem mkN_more {os : List Opr} {cs : List (List Int)} {k : Nat} {ms : List MOp} {fr : List Int} (h : mkN os cs k = some (ms, fr)) (hr : rolsB (opr os k) cs = true) (h40 : ¬ 40 < ms.length + numN (rols (opr os k) cs) cs.length) :
    mkN os cs (k + 1) = some (ms ++ (cmbN (rols (opr os k) cs) cs.length).map (und (rols (opr os k) cs) (opr os k).cost), fr ++ List.replicate (numN (rols (opr os k) cs) cs.length) (k : Int)) := by
  rw [mkN, h]; simp only [hr, if_true]; rw [if_neg h40]
theorem rw_take {L : List (List Int)} {j : Nat} (h : j < L.length) : L.take (j + 1) = L.take j ++ [rw_ L j] := by
  rw [List.take_add_one]; simp [rw_, List.getD, h]
theorem rols_asm {o : Opr} {cs : List (List Int)} (h : rolsB o cs = true) (h5 : ∀ k, k < cs.length → (rw_ cs k).length ≤ 5) : ∀ k, k < (rols o cs).length → 1 ≤ (rol (rols o cs) k).asm.length ∧ (rol (rols o cs) k).asm.length ≤ 6 := by
  intro k hk
  rw [rols_len] at hk
  rw [rol_rols hk]
  have := asmL_len (rolsB_good.1 h k hk)
  have := h5 k hk
  exact ⟨by show 1 ≤ (asmL _ _).length; omega, by show (asmL _ _).length ≤ 6; omega⟩
set_option maxHeartbeats 8000000 in
theorem operatorsOf_any (os : List Opr) (cs : List (List Int)) (Ao A : Option Addr) (co c : Nat) (w : World) (hO : Oprs w w.heap.size Ao os) (hA : Rws w w.heap.size A cs) (h40 : os.length ≤ 40) (h8 : cs.length ≤ 8) (h5 : ∀ k, k < cs.length → (rw_ cs k).length ≤ 5) :
    Calls Tryd.prog 50 #[.slice Ao os.length co, .slice A cs.length c] w (OpsPost w (mkN os cs os.length)) := by
  have HO := Lib.hid (fun (W : World) (h : Below w.heap.size w W) => hO.to h h.size)
  have HA := Lib.hid (fun (W : World) (h : Below w.heap.size w W) => hA.to h h.size)
  have H5 := Lib.hid h5
  clear hO hA h5
  obtain ⟨i0, hi, hz0, hz1, hz2⟩ := info_parts info_int
  obtain ⟨m0, hmi, hmz0, hmz1, hmz2⟩ := info_parts info_mop
  go_enter Tryd.func50, Tryd.ntmps50
  go_wp2
  go_loopw [4, 5, 15] (fun v0 v1 i wr => ∃ (k : Nat) (ms : List MOp) (fr : List Int) (xs : List Value), k ≤ os.length ∧ i = .int .i64 k ∧ mkN os cs k = some (ms, fr) ∧ G2 wr w.heap.size v0 xs ms v1 fr ∧ Below w.heap.size w wr) (fun _ _ i _ => os.length - (intOf i).toNat)
  case atStart => exact ⟨0, [], [], [], by omega, rfl, rfl, G2.nil _ _, Below.refl _ _⟩
  case round =>
    obtain ⟨k, ms, fr, xs, hk, rfl, hmk, hg2, hbw⟩ := hrel
    have HG := Lib.hid hg2
    have HW := Lib.hid hbw
    have HM := Lib.hid hmk
    have hvv := hg2.on.out
    obtain ⟨⟨a4, c4, rfl, _⟩, a5, c5, rfl, _⟩ := hvv
    clear hg2 hbw hmk
    have hsz := HW.out.size
    by_cases hlt : k < os.length
    case neg =>
      have hge : ¬ ((k : Int) < os.length) := by omega
      have H := Lib.hid (show mkN os cs os.length = some (ms, fr) by rw [← show k = os.length by omega]; exact HM.out)
      go_wp2
      refine bodyPost_ret (v := .tuple #[.slice a4 ms.length c4, .slice a5 fr.length c5, .bool true]) (by simp [results, Tryd.results50, go_sem]) rfl ?_
      exact opsPost_some H.out HW.out HG.out.on
    obtain ⟨b, p, a1, a2, a3, c1, c2, c3, rfl, hbl, ⟨t0, t1, t2, t3⟩, hV⟩ := (HO.out _ HW.out).at_ hlt
    have hbU : Below wr.heap.size wr (wr.alloc (.cells #[.slice a1 (opr os k).pre.length c1, .slice a2 (opr os k).add.length c2, .slice a3 (opr os k).del.length c3, .int .i64 (opr os k).cost] 79)) := (Below.refl _ _).alloc (Nat.le_refl _) _
    have hbx : (wr.alloc (.cells #[.slice a1 (opr os k).pre.length c1, .slice a2 (opr os k).add.length c2, .slice a3 (opr os k).del.length c3, .int .i64 (opr os k).cost] 79)).cell? ⟨wr.heap.size, 3, none⟩ = some (.int .i64 (opr os k).cost) := by simp
    have hUl : wr.heap.size < (wr.alloc (.cells #[.slice a1 (opr os k).pre.length c1, .slice a2 (opr os k).add.length c2, .slice a3 (opr os k).del.length c3, .int .i64 (opr os k).cost] 79)).heap.size := by simp
    have HRO := Lib.hid (rolesOf_any (opr os k) a1 a2 a3 A c1 c2 c3 c cs _ (hV.to hbU hbU.size) (HA.out _ (HW.out.trans (hbU.mono hsz))) (by omega) (fun j hj => Nat.le_trans (H5.out j hj) (by omega)))
    have HBU := Lib.hid hbU
    clear hV
    cases hrb : rolsB (opr os k) cs
    case false =>
      rw [hrb] at HRO
      have HM2 := Lib.hid (mkN_skip HM.out hrb)
      clear hrb hbU hbx hUl
      go_wp2_with (go_at_call 75; (with_reducible refine HRO.out.mono ?_); rintro e w1 ⟨vR, rfl, hb1, hon1⟩)
      go_roundw
      case rel => exact ⟨k + 1, ms, fr, xs, by omega, by go_num, HM2.out, (HG.out.to HBU.out).to hb1, (HW.out.trans (HBU.out.mono hsz)).trans (hb1.mono (Nat.le_trans hsz HBU.out.size))⟩
      case measure => simp [intOf]; omega
    rw [hrb] at HRO
    have HAS := Lib.hid (rols_asm hrb H5.out)
    have HSK := Lib.hid (fun h => mkN_many HM.out hrb h)
    have HMO := Lib.hid (fun h => mkN_more HM.out hrb h)
    have HML := Lib.hid (mkN_len HM.out)
    have hrl := rols_len (opr os k) cs
    rw [← hrl] at HSK HMO
    have HRL := Lib.hid hrl
    have hrl8 : (rols (opr os k) cs).length ≤ 8 := by omega
    clear hrb hrl
    generalize hrs : rols (opr os k) cs = rs at *
    clear hrs
    have HNB := Lib.hid (fun (W : World) (a : Option Addr) (c : Nat) (h : SlRs rs (.slice a rs.length c) W) => numberOf_any rs a c W h hrl8 HAS.out)
    have HCB := Lib.hid (fun (W : World) (a : Option Addr) (c : Nat) (h : SlRs rs (.slice a rs.length c) W) => combinations_any rs a c W h hrl8 HAS.out)
    have hnb := numN_bd (rs := rs) (n := rs.length) HAS.out
    have hnb2 : numN rs rs.length ≤ 1679616 := Nat.le_trans hnb.2 (pow6_le hrl8)
    have HCL := Lib.hid (cmbN_len rs rs.length)
    have HCM := Lib.hid (fun b (h : b ∈ cmbN rs rs.length) => (cmbN_mem h).1)
    have hml := HML.out.2
    have hn1 := hnb.1
    clear hnb
    generalize numN rs rs.length = N at *
    generalize cmbN rs rs.length = L at *
    by_cases hmany : 40 < ms.length + N
    · have d1 : decide ((40 : Int) < (ms.length : Int) + (N : Int)) = true := decide_eq_true (by omega)
      have H := Lib.hid (mkN_none (show k + 1 ≤ os.length by omega) (HSK.out hmany))
      clear hmany hbx hUl hbU
      go_wp2_with (first | (go_at_call 75; (with_reducible refine HRO.out.mono ?_); rintro e w1 ⟨vR, rfl, hb1, hon1⟩; have hon2 := hon1 rfl; have HSR := Lib.hid hon2.out; have hsr := hon2.out; obtain ⟨aR, cR, rfl, _⟩ := hsr; have HB1 := Lib.hid hb1; have HN1 := Lib.hid hon2; clear hb1 hon1 hon2) | (go_at_call 76; (with_reducible refine (HNB.out _ _ _ HSR.out).mono ?_); rintro e w2 ⟨rfl, hb2⟩; have HB2 := Lib.hid hb2; clear hb2))
      refine bodyPost_ret (v := .tuple #[.slice none 0 0, .slice none 0 0, .bool false]) (by simp [results, Tryd.results50, go_sem]) rfl ?_
      exact opsPost_none H.out ((((HW.out.trans (HBU.out.mono hsz)).trans (HB1.out.mono (Nat.le_trans hsz HBU.out.size)))).trans (HB2.out.mono (Nat.le_trans hsz (Nat.le_trans HBU.out.size HB1.out.size))))
    have d1 : decide ((40 : Int) < (ms.length : Int) + (N : Int)) = false := decide_eq_false (by omega)
    have HM2 := Lib.hid (HMO.out hmany)
    clear hmany HSK HMO
    go_wp2_with (first | (go_at_call 75; (with_reducible refine HRO.out.mono ?_); rintro e w1 ⟨vR, rfl, hb1, hon1⟩; have hon2 := hon1 rfl; have HSR := Lib.hid hon2.out; have hsr := hon2.out; obtain ⟨aR, cR, rfl, _⟩ := hsr; have HB1 := Lib.hid hb1; have HN1 := Lib.hid hon2; clear hb1 hon1 hon2) | (go_at_call 76; (with_reducible refine (HNB.out _ _ _ HSR.out).mono ?_); rintro e w2 ⟨rfl, hb2⟩; have HB2 := Lib.hid hb2; clear hb2) | (go_at_call 77; (with_reducible refine (HCB.out _ _ _ (HSR.out.to HB2.out)).mono ?_); rintro e w3 ⟨vL, rfl, hl3, hb3⟩; have hls := hl3.on.out; obtain ⟨aL, cL, rfl, _⟩ := hls; have HL3 := Lib.hid hl3.on; have HB3 := Lib.hid hb3; clear hb3 hl3))
    have hb13 : Below w1.heap.size w1 w3 := HB2.out.trans (HB3.out.mono HB2.out.size)
    have hbr3 : Below wr.heap.size wr w3 := (HBU.out.trans (HB1.out.mono HBU.out.size)).trans (hb13.mono (Nat.le_trans HBU.out.size HB1.out.size))
    have HRS := Lib.hid (fun (W : World) (h : Eqr wr.heap.size w3.heap.size w3 W) => (HN1.out.mv ((Eqr.refl _ _ _).below hb13 (Nat.le_refl _))).at_ (h.mono (Nat.le_trans HBU.out.size (Nat.le_refl _)) hb13.size))
    have HLS := Lib.hid (fun (W : World) (h : Eqr wr.heap.size w3.heap.size w3 W) => HL3.out.at_ (h.mono (Nat.le_trans HBU.out.size (Nat.le_trans HB1.out.size HB2.out.size)) (Nat.le_refl _)))
    have hbx3 := cell_to (cell_to hbx HB1.out) hb13
    have hl3 : wr.heap.size < w3.heap.size := Nat.lt_of_lt_of_le hUl (Nat.le_trans HB1.out.size hb13.size)
    have HBX := Lib.hid (fun (W : World) (h : Eqr wr.heap.size w3.heap.size w3 W) => h.cell hbx3 (Nat.le_refl _) hl3)
    have HW3 := Lib.hid (HW.out.trans (hbr3.mono hsz))
    have HG3 := Lib.hid (HG.out.to hbr3)
    have HT0 := Lib.hid (show Out (.slice a4 ms.length c4) wr.heap.size w3.heap.size from Out.of_lt HG.out.o0)
    have HT1 := Lib.hid (show Out (.slice a5 fr.length c5) wr.heap.size w3.heap.size from Out.of_lt HG.out.o1)
    have HNL := HCL.out
    clear hbx hUl hbU HBU HB1 HB2 HB3 HN1 HL3 hb13 hbr3 HRO HNB HCB hbx3 HSR
    clear hbl t0 t1 t2 t3
    generalize wr.heap.size = s0 at *
    have HS0 := Lib.hid hsz
    have H3 := Lib.hid hl3
    have HLN := Lib.hid HNL
    have hLb : L.length ≤ 1679616 := by omega
    clear HNL
    go_loopw [4, 5, 37] (fun v0 v1 i wr => ∃ (j : Nat) (ys : List Value), j ≤ L.length ∧ i = .int .i64 j ∧ G2 wr w.heap.size v0 ys (ms ++ (L.take j).map (und rs (opr os k).cost)) v1 (fr ++ List.replicate j (k : Int)) ∧ Below w.heap.size w wr ∧ Eqr s0 w3.heap.size w3 wr ∧ Out v0 s0 w3.heap.size ∧ Out v1 s0 w3.heap.size) (fun _ _ i _ => L.length - (intOf i).toNat)
    case atStart => exact ⟨0, xs, by omega, rfl, by simpa using HG3.out, HW3.out, Eqr.refl _ _ _, HT0.out, HT1.out⟩
    case round =>
      obtain ⟨j, ys, hj, rfl, hg, hbw, heq, ho0, ho1⟩ := hrel
      have HG := Lib.hid hg
      have HW := Lib.hid hbw
      have HQ := Lib.hid heq
      have HO0 := Lib.hid ho0
      have HO1 := Lib.hid ho1
      clear hg hbw heq ho0 ho1
      by_cases hlt2 : j < L.length
      case neg =>
        have hge : ¬ ((j : Int) < L.length) := by omega
        have HJ := Lib.hid (show j = L.length by omega)
        go_wp2
        go_roundw
        case rel =>
          refine ⟨k + 1, _, _, ys, by omega, by go_num, HM2.out, ?_, HW.out⟩
          have h9 := HG.out
          rw [HJ.out, List.take_length, HLN.out] at h9
          exact h9
        case measure => simp [intOf]; omega
      have hlw := HQ.out.size
      have hsw := HW.out.size
      obtain ⟨aL2, cL2, e, hrn, _, _⟩ := HLS.out _ HQ.out
      injection e with e1 e2 e3
      subst e1 e3
      obtain ⟨b2, o2, ak, ck, rfl, hb2, hc2, hl2⟩ := hrn.at_ hlt2
      have hbx := HBX.out _ HQ.out
      have hmem : rw_ L j ∈ L := by simp [rw_, List.getD, hlt2]
      have hlb := HCM.out _ hmem
      have HUN := Lib.hid (under_any rs (rw_ L j) (opr os k).cost aR ak cR ck wr (HRS.out _ HQ.out) hl2.lst hlb hrl8)
      have HST := Lib.hid (show ms ++ (L.take (j + 1)).map (und rs (opr os k).cost) = (ms ++ (L.take j).map (und rs (opr os k).cost)) ++ [und rs (opr os k).cost (rw_ L j)] by rw [rw_take hlt2, List.map_append, List.append_assoc]; rfl)
      have HSR2 := Lib.hid (show fr ++ List.replicate (j + 1) (k : Int) = (fr ++ List.replicate j (k : Int)) ++ [(k : Int)] by rw [List.replicate_succ', List.append_assoc])
      have hmn : (ms ++ (L.take j).map (und rs (opr os k).cost)).length ≤ 1679656 := by rw [List.length_append, List.length_map, List.length_take]; have := HLN.out; omega
      have hfn : (fr ++ List.replicate j (k : Int)).length ≤ 1679656 := by rw [List.length_append, List.length_replicate]; have := HLN.out; have := HML.out; omega
      generalize und rs (opr os k).cost (rw_ L j) = m at *
      generalize ms ++ (L.take j).map (und rs (opr os k).cost) = M at *
      generalize fr ++ List.replicate j (k : Int) = R at *
      clear hl2 hrn hmem hlb
      have HLT := Lib.hid hlt2
      clear e2
      go_wp2_with (first | (go_at_call 78; (with_reducible refine HUN.out.mono ?_); rintro e w4 ⟨u0, u1, rfl, hb4, hon4⟩; have hou := hon4.out; obtain ⟨⟨p0, n0, rfl, _⟩, p1, n1, rfl, _⟩ := hou; have HB4 := Lib.hid hb4; have HN4 := Lib.hid hon4; have hz4 := hb4.size; clear hb4 hon4) | (at_builtin; refine wpList_append_own_at _ rfl _ _ 36 rfl w.heap.size 75 m0 (.agg #[.slice none 0 0, .slice none 0 0, .int .i64 0]) 3 56 Tryd.underlying36 hmi hmz0 hmz1 hmz2 rfl (by decide) _ _ _ rfl ((own_to HG.out.o0 HB4.out).alloc _) ⟨w4.heap.size, 0, none⟩ 1 1 [.slice p0 m.pre.length n0, .slice p1 m.post.length n1, .int .i64 m.cost] rfl rfl ?d1 ?d2 ?d3 ?d4 ?d5 ?_))
      case d1 => exact cell_three_new _ _ _ _ _
      case d2 => simp [Value.oneCell']
      case d3 => unfold maxLen; omega
      case d4 => omega
      case d5 => simp; omega
      intro v6 w6 hown6 hgrow6 _ hat6
      have hb5 : Below w4.heap.size w4 (World.alloc w4 (.cells #[.slice p0 m.pre.length n0, .slice p1 m.post.length n1, .int .i64 m.cost] 75)) := (Below.refl _ _).alloc (Nat.le_refl _) _
      have hat6' : v6.ownBlock = u4.ownBlock ∨ v6.ownBlock = some ((World.alloc w4 (.cells #[.slice p0 m.pre.length n0, .slice p1 m.post.length n1, .int .i64 m.cost] 75))).heap.size := by simpa using hat6
      have HG6 := Lib.hid (((HG.out.to HB4.out).to hb5).app0 (m := m) ((HN4.out.below hb5 (fun b q => q.2)).imp (fun b q => ⟨Nat.le_trans hsw q.1, Nat.lt_of_lt_of_le q.2 hb5.size, fun e => absurd (HG.out.o0.lt b e).2 (Nat.not_lt.2 q.1), fun e => absurd (HG.out.o1.lt b e).2 (Nat.not_lt.2 q.1)⟩)) hown6 hgrow6 hat6')
      have HQ6 := Lib.hid ((((HQ.out.below HB4.out hlw).below hb5 (Nat.le_trans hlw hz4))).grown hgrow6 (Nat.le_trans hlw (Nat.le_trans hz4 hb5.size)) HO0.out)
      have HO6 := Lib.hid (HO0.out.next hat6' (Nat.le_trans hlw (Nat.le_trans hz4 hb5.size)))
      have HW6 := Lib.hid (Below.grown (B := w.heap.size) (HW.out.trans ((HB4.out.mono hsw).trans (hb5.mono (Nat.le_trans hsw hz4)))) hgrow6 (Nat.le_trans hsw (Nat.le_trans hz4 hb5.size)) (fun q hq => (HG.out.o0.lt q hq).1))
      have hz6 := hgrow6.size
      have hz5 := hb5.size
      have hw6 : w.heap.size ≤ w6.heap.size := by omega
      clear hown6 hgrow6 hat6 hat6' hb5
      go_wp2_with (at_builtin; refine wpList_append_own_at _ rfl _ _ 22 rfl (w.heap.size) 3 i0 (.int .i64 0) 1 8 Tryd.underlying22 hi hz0 hz1 hz2 rfl (by decide) _ _ _ rfl (HG6.out.o1.alloc _) ⟨w6.heap.size, 0, none⟩ 1 1 [.int .i64 k] rfl rfl ?c1 ?c2 ?c3 ?c4 ?c5 ?_)
      case c1 => exact cell_one_new _ _ _
      case c2 => simp [Value.oneCell']
      case c3 => unfold maxLen; omega
      case c4 => omega
      case c5 => simp; omega
      intro v7 w7 hown7 hgrow7 _ hat7
      have hb7 : Below w6.heap.size w6 (w6.alloc (.cells #[.int .i64 k] 3)) := (Below.refl _ _).alloc (Nat.le_refl _) _
      have hat7' : v7.ownBlock = u5.ownBlock ∨ v7.ownBlock = some (w6.alloc (.cells #[.int .i64 k] 3)).heap.size := by simpa using hat7
      have HG7 := Lib.hid ((HG6.out.to hb7).app1 (fr2 := R ++ [(k : Int)]) (by simpa using hown7) hgrow7 hat7')
      have hl6 : w3.heap.size ≤ w6.heap.size := Nat.le_trans hlw (Nat.le_trans hz4 (Nat.le_trans hz5 hz6))
      have HQ7 := Lib.hid ((HQ6.out.below hb7 hl6).grown hgrow7 (Nat.le_trans hl6 hb7.size) HO1.out)
      have HO7 := Lib.hid (HO1.out.next hat7' (Nat.le_trans hl6 hb7.size))
      have HW7 := Lib.hid (Below.grown (B := w.heap.size) (HW6.out.trans (hb7.mono hw6)) hgrow7 (Nat.le_trans hw6 hb7.size) (fun q hq => (HG.out.o1.lt q hq).1))
      clear hown7 hgrow7 hat7 hat7' hb7
      go_wp2
      go_roundw
      case rel => exact ⟨j + 1, _, HLT.out, by go_num, by rw [HST.out, HSR2.out]; exact HG7.out, HW7.out, HQ7.out, HO6.out, HO7.out⟩
      case measure => have := HLT.out; simp [intOf]; omega
end Go.Proofs.YtiaobanloakplaaDoor
