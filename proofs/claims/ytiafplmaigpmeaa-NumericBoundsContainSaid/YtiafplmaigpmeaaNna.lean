/- NumericAfter of the reference. -/
import Derived.Test.YtiafplmaigpmeaaNsm
namespace Go.Proofs.Ytiafplmaigpmeaa
open Go.RowKit
set_option linter.unusedSimpArgs false
set_option linter.unusedVariables false
set_option maxRecDepth 100000

/-- The value of variable x after the first k changes. -/
def nvK (ch : List Chg) (v : List Int) (x : Nat) : Nat → Int
  | 0 => ix v x
  | k + 1 => if (chg ch k).v = x then sm (chg ch k).f v + (chg ch k).c else nvK ch v x k
def nvL (ch : List Chg) (v : List Int) : List Int := (List.range v.length).map (fun x => nvK ch v x ch.length)
/-- The first m of them. -/
def nvM (ch : List Chg) (v : List Int) (m : Nat) : List Int := (List.range m).map (fun x => nvK ch v x ch.length)
theorem nvM_len (ch : List Chg) (v : List Int) (m : Nat) : (nvM ch v m).length = m := by simp [nvM]
theorem nvM_succ (ch : List Chg) (v : List Int) (m : Nat) : nvM ch v (m + 1) = nvM ch v m ++ [nvK ch v m ch.length] := by
  unfold nvM; rw [List.range_succ, List.map_append]; rfl
theorem nvL_len (ch : List Chg) (v : List Int) : (nvL ch v).length = v.length := by simp [nvL]
def naf (o : NOp) (v : List Int) : List Int × Int :=
  if sat o.pre v = false then ([], 11) else if okL 1000000 v.length (nvL o.ch v) = false then ([], 10) else (nvL o.ch v, 0)
theorem naf_vok {o : NOp} {v : List Int} (h : (naf o v).2 = 0) : VOk v.length (naf o v).1 := by
  unfold naf at h ⊢
  split at h
  · cases h
  rename_i h1
  rw [if_neg h1]
  split at h
  · cases h
  rename_i h2
  rw [if_neg h2]
  have := okL_iff.1 (show okL 1000000 v.length (nvL o.ch v) = true by simpa using h2)
  exact ⟨this.1, this.2⟩
theorem nvK_bd {n : Nat} {ch : List Chg} {v : List Int} (hn : n ≤ 8) (hc : ∀ k, k < ch.length → ChgOk n (chg ch k)) (hv : VOk n v) {x : Nat} (hx : x < n) : ∀ k, k ≤ ch.length → -8000001000 ≤ nvK ch v x k ∧ nvK ch v x k ≤ 8000001000
  | 0, _ => by have := hv.b x (by rw [hv.len]; exact hx); unfold nvK; omega
  | k + 1, h => by
    rw [nvK]
    split
    · have h1 := sm_bd hn (hc k (by omega)).fok hv
      have h2 := (hc k (by omega)).c
      omega
    · exact nvK_bd hn hc hv hx k (by omega)
def NaPost (w : World) (r : List Int × Int) (e : Ending) (w' : World) : Prop := ∃ a c, e = .returned (.tuple #[.slice a r.1.length c, .int .i64 r.2]) ∧ Lst w' w'.heap.size a c r.1 ∧ (a = none → c = 0) ∧ Below w.heap.size w w'
set_option maxHeartbeats 4000000 in
theorem numericAfter_any (x : NT) (hv : NVal x) (a2 : Option Addr) (c2 : Nat) (v : List Int) (hvv : VOk x.init.length v) (op : Nat) (hop : op < x.ops.length) (w : World) (hX : NTIn w w.heap.size x) (hV : Lst w w.heap.size a2 c2 v) :
    Calls Try.prog 17 #[.agg #[.slice x.ai x.init.length x.ci, .slice x.ag x.goal.length x.cg, .slice x.ao x.ops.length x.co], .slice a2 v.length c2, .int .i64 op] w (NaPost w (naf (nop x.ops op) v)) := by
  have hn8 := hv.n8
  have hok := hv.ops op hop
  have hvl := hvv.len
  have HVV := Lib.hid hvv
  have HX0 := Lib.hid (fun (W : World) (h : Below w.heap.size w W) => hX.to h h.size)
  have HV0 := Lib.hid (fun (W : World) (h : Below w.heap.size w W) => hV.to h h.size)
  have HB0 := Lib.hid (show Below w.heap.size w (w.alloc (.cells #[.slice x.ai x.init.length x.ci, .slice x.ag x.goal.length x.cg, .slice x.ao x.ops.length x.co] 26)) by go_grown)
  have HBX := Lib.hid (nbox_new w x 26)
  obtain ⟨b, p, a1, a3, c1, c3, hao, hbl, hcl, hpre, hch⟩ := hX.ops.at_ hop
  have HCL := Lib.hid (fun (W : World) (h : Below w.heap.size w W) => hcl.to h hbl)
  have HPR := Lib.hid (fun (W : World) (h : Below w.heap.size w W) => hpre.to h h.size)
  have HCH := Lib.hid (fun (W : World) (h : Below w.heap.size w W) => hch.to h h.size)
  have hlc := Nat.le_trans hch.le hch.max
  unfold maxLen at hlc
  generalize hO : nop x.ops op = o at *
  have HOK := Lib.hid hok
  have HST := Lib.hid (satisfied_any x.init.length hn8 a1 a2 c1 c2 o.pre v hok.pre.2 hvv _ (HPR.out _ HB0.out) (HV0.out _ HB0.out))
  have hcl0 := hcl.c0
  have hbx := HBX.out.c2
  rw [hao] at hbx HST HB0 HBX
  have HVL := Lib.hid hvl
  obtain ⟨i0, hi0, hz0, hz1, hz2⟩ := info_parts info_int
  clear hX hV hvv hok hcl hpre hch hvl hO
  cases hs : sat o.pre v
  case false =>
    have H := Lib.hid (show naf o v = ([], 11) by unfold naf; rw [if_pos hs])
    rw [hs] at HST
    go_enter Try.func17, Try.ntmps17
    go_wp2_with (go_at_call 34; (with_reducible refine HST.out.mono ?_); rintro e w1 ⟨rfl, hb1⟩; have HB1 := Lib.hid (HB0.out.trans (hb1.mono HB0.out.size)); have HBX1 := Lib.hid (HBX.out.to hb1 HBX.out.lt); clear hb1)
    refine post_two Try.results17 ?_
    exact ⟨none, 0, by rw [H.out]; rfl, by rw [H.out]; exact lst_nil _ _, fun _ => rfl, HB1.out⟩
  rw [hs] at HST
  have hs9 := hs
  go_enter Try.func17, Try.ntmps17
  go_wp2_with (go_at_call 34; (with_reducible refine HST.out.mono ?_); rintro e w1 ⟨rfl, hb1⟩; have HB1 := Lib.hid (HB0.out.trans (hb1.mono HB0.out.size)); have HBX1 := Lib.hid (HBX.out.to hb1 HBX.out.lt); clear hb1)
  go_loopw [8, 9] (fun out i wr => ∃ (k : Nat) (ao : Option Addr) (co : Nat), k ≤ v.length ∧ i = .int .i64 k ∧ out = .slice ao k co ∧ wr.ownsRow (w.heap.size + 1) 3 1 (.slice ao k co) (nvM o.ch v k).length ((nvM o.ch v k).map (Value.int .i64)) ∧ NBox wr w.heap.size x ∧ Below w.heap.size w wr) (fun _ i _ => v.length - (intOf i).toNat)
  case atStart => exact ⟨0, none, 0, by omega, rfl, rfl, World.ownsRow_nil _ _ _ _, HBX1.out, HB1.out⟩
  case round =>
    obtain ⟨k, ao, co, hk, rfl, rfl, hown, hbox, hb⟩ := hrel
    have HOW := Lib.hid hown
    have HBX2 := Lib.hid hbox
    have HB2 := Lib.hid hb
    clear hown hbox hb
    by_cases hlt : k < v.length
    case neg =>
      obtain rfl : k = v.length := by omega
      have hge : ¬ ((v.length : Int) < v.length) := by omega
      have hll : nvM o.ch v v.length = nvL o.ch v := rfl
      obtain ⟨ao', co', e9, hlo, hno⟩ := own_lst HOW.out
      rw [hll] at hlo
      rw [nvM_len] at e9
      injection e9 with e8 _ e7
      subst e8 e7
      have HLO := Lib.hid hlo
      have HNO := Lib.hid hno
      have hvo := valuesOk_any v.length ao co (nvL o.ch v) wr hlo
      rw [nvL_len] at hvo
      have HVO := Lib.hid hvo
      clear hll hlo hno hvo
      cases hok : okL 1000000 v.length (nvL o.ch v)
      · have H := Lib.hid (show naf o v = ([], 10) by unfold naf; rw [if_neg (by simp [hs9]), if_pos hok])
        rw [hok] at HVO
        go_wp2_with (go_at_call 14; (with_reducible refine HVO.out.mono ?_); rintro e w5 ⟨rfl, rfl⟩)
        refine post_two Try.results17 ?_
        exact ⟨none, 0, by rw [H.out]; rfl, by rw [H.out]; exact lst_nil _ _, fun _ => rfl, HB2.out⟩
      · have H := Lib.hid (show naf o v = (nvL o.ch v, 0) by unfold naf; rw [if_neg (by simp [hs9]), if_neg (by simp [hok])])
        rw [hok] at HVO
        go_wp2_with (go_at_call 14; (with_reducible refine HVO.out.mono ?_); rintro e w5 ⟨rfl, rfl⟩)
        refine post_two Try.results17 ?_
        exact ⟨ao, co, by rw [H.out]; simp only [nvL_len]; rfl, by rw [H.out]; exact HLO.out, HNO.out, HB2.out⟩
    case pos =>
      obtain ⟨bv, ov, rfl, hbv, hcv⟩ := (HV0.out _ HB2.out).nums.at_ hlt
      have h8k : k < x.init.length := by have := HVL.out; omega
      have hcl2 := (HCL.out _ HB2.out).c1
      have t2 := HBX2.out.c2
      rw [hao] at t2
      have hwk : IntKind.i64.wrap ((k : Int) + 1) = (k : Int) + 1 := IntWalk.i64_in _ (by omega)
      go_wp2
      clear hcl2 t2
      have HWB := Lib.hid (Below.refl wr.heap.size wr)
      have hwr0 : w.heap.size < wr.heap.size := by have := HBX2.out.lt; omega
      go_loopw [10, 11] (fun z i wv => ∃ j : Nat, j ≤ o.ch.length ∧ i = .int .i64 j ∧ z = .int .i64 (nvK o.ch v k j) ∧ Below wr.heap.size wr wv) (fun _ i _ => o.ch.length - (intOf i).toNat)
      case atStart => exact ⟨0, by omega, rfl, rfl, HWB.out⟩
      case round =>
        obtain ⟨j, hj, rfl, rfl, hb3⟩ := hrel
        have HB3 := Lib.hid hb3
        have HB4 := Lib.hid (HB2.out.trans (hb3.mono HB2.out.size))
        have HBX3 := Lib.hid (HBX2.out.to hb3 HBX2.out.lt)
        have HOW3 := Lib.hid (own_to HOW.out hb3)
        clear hb3
        have t2 := HBX3.out.c2
        rw [hao] at t2
        have hcl1 := (HCL.out _ HB4.out).c1
        by_cases hlj : j < o.ch.length
        case neg =>
          obtain rfl : j = o.ch.length := by omega
          have hge : ¬ ((o.ch.length : Int) < o.ch.length) := by omega
          have hml := nvM_len o.ch v k
          go_wp2_with (at_builtin; refine wpList_append_own _ rfl _ _ 22 rfl (w.heap.size + 1) 3 i0 (.int .i64 0) 1 8 Try.underlying22 hi0 hz0 hz1 hz2 rfl (by decide) _ _ _ rfl (HOW3.out.alloc _) ⟨wr.heap.size, 0, none⟩ 1 1 [.int .i64 (nvK o.ch v k o.ch.length)] rfl rfl (news1 (cell_new _ _ _).1) (by simp [Value.oneCell']) (by unfold maxLen; omega) (by omega) (by have := HBX3.out.lt; simp; omega) ?_)
          intro v6 w6 hown6 hgrow6 _
          have hms := nvM_succ o.ch v k
          have hown7 : w6.ownsRow (w.heap.size + 1) 3 1 v6 (nvM o.ch v (k + 1)).length ((nvM o.ch v (k + 1)).map (Value.int .i64)) := by rw [hms]; simp only [List.length_append, List.length_singleton, nvM_len, List.map_append, List.map_cons, List.map_nil]; simpa [nvM_len] using hown6
          obtain ⟨a6, c6, rfl, _, _⟩ := own_lst hown7
          rw [nvM_len] at hown7
          have HO6 := Lib.hid hown7
          have hsz : w.heap.size + 1 ≤ wr.heap.size := HBX3.out.lt
          have HB6 := Lib.hid (((Below.refl (w.heap.size + 1) wr).alloc hsz _).grown hgrow6 (by simp; omega) (fun q hq => (HOW3.out.lt q hq).1))
          clear hown6 hgrow6 hown7 hms hml
          rw [nvM_len]
          go_wp2
          go_roundw
          case rel => exact ⟨k + 1, a6, c6, by omega, by go_num, rfl, by rw [nvM_len]; exact HO6.out, HBX3.out.to HB6.out (by omega), HB4.out.trans (HB6.out.mono (by omega))⟩
          case measure => simp [intOf]; omega
        case pos =>
          obtain ⟨b5, p5, a5, ca5, hac, hbl5, ⟨r0, r1, r2⟩, hf⟩ := (HCH.out _ HB4.out).at_ hlj
          subst hac
          have hok2 := HOK.out.ch j hlj
          have hal : Below wr.heap.size wr (wr.alloc (.cells #[.int .i64 (chg o.ch j).v, .slice a5 (chg o.ch j).f.length ca5, .int .i64 (chg o.ch j).c] 55)) := by go_grown
          have HAL := Lib.hid hal
          have HSM := Lib.hid (fun (m : Nat) => sum_any x.init.length hn8 a5 (some ⟨bv, ov, none⟩) ca5 c2 (chg o.ch j).f v hok2.fok HVV.out _ ((hf.to hal hal.size).to (belowN (Below.refl _ _) m) (Nat.le_refl _)) (((HV0.out _ HB4.out).to hal hal.size).to (belowN (Below.refl _ _) m) (Nat.le_refl _)))
          have hsb := sm_bd hn8 hok2.fok HVV.out
          have hcb := hok2.c
          have hnk : nvK o.ch v k (j + 1) = if (chg o.ch j).v = k then sm (chg o.ch j).f v + (chg o.ch j).c else nvK o.ch v k j := rfl
          have hwj : IntKind.i64.wrap ((j : Int) + 1) = (j : Int) + 1 := IntWalk.i64_in _ (by omega)
          clear hal hf hok2
          generalize chg o.ch j = c at *
          by_cases hvk : c.v = k
          case neg =>
            have HK := Lib.hid (show nvK o.ch v k (j + 1) = nvK o.ch v k j by rw [hnk, if_neg hvk])
            have he : (c.v == (k : Int)) = false := by simpa using hvk
            clear hnk hvk
            go_wp2
            go_roundw
            case rel => exact ⟨j + 1, by omega, by go_num, by rw [HK.out], (HB3.out.trans (HAL.out.mono HB3.out.size))⟩
            case measure => simp [intOf]; omega
          case pos =>
            have HK := Lib.hid (show nvK o.ch v k (j + 1) = sm c.f v + c.c by rw [hnk, if_pos hvk])
            have he : (c.v == (k : Int)) = true := by simpa using hvk
            have hwa : IntKind.i64.wrap (sm c.f v + c.c) = sm c.f v + c.c := IntWalk.i64_in _ (by omega)
            clear hnk hvk hsb hcb
            go_wp2
            go_quiet ((go_at_call 35; exact Calls.quiet_of (HSM.out _)))
            go_wp2
            go_roundw
            case rel => exact ⟨j + 1, by omega, by go_num, by rw [HK.out], belowN (HB3.out.trans (HAL.out.mono HB3.out.size)) _⟩
            case measure => simp [intOf]; omega
end Go.Proofs.Ytiafplmaigpmeaa
