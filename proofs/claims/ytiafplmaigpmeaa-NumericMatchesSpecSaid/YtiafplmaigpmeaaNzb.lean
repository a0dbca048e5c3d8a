/- extended of package numeric. -/
import Derived.Test.YtiafplmaigpmeaaNzh
namespace Go.Proofs.Ytiafplmaigpmeaa
open Go.RowKit
set_option linter.unusedSimpArgs false
set_option linter.unusedVariables false
set_option maxRecDepth 100000

theorem cloneP_any (A : Option Addr) (c : Nat) (b : List (Int × Int)) (w : World) (hP : PrL w w.heap.size A c b) (h1 : 1 ≤ b.length) (h8 : b.length ≤ 8) :
    Calls Try.prog 48 #[.slice A b.length c] w (BdO w b) := by
  obtain ⟨g, o, rfl, hg, _⟩ := hP.at_ (k := 0) (by omega)
  have HB := Lib.hid (show Below w.heap.size w (w.alloc (.cells #[] 50)) by go_grown)
  have HP := Lib.hid (hP.to HB.out HB.out.size)
  have HO := Lib.hid (World.ownsRow_lit (base := w.heap.size) (e := 50) (size := 2) w #[] 0 (Nat.le_refl _) (by simp [maxLen]) rfl)
  have hq : ∀ W : World, (binOp .eql 44 (.slice (some ⟨g, o, none⟩) b.length c) (.slice none 0 0)).run Try.prog W = .ok (.bool false) W := fun W => run_eql_slice_nil W _ _ (some ⟨g, o, none⟩) b.length c Try.underlying44
  obtain ⟨j0, ji0, jz0, jz1, jz2⟩ := info_parts info_pr
  have hfll := fl_len b
  have hgr : w.heap.size ≤ (w.alloc (.cells #[] 50)).heap.size := HB.out.size
  clear hP
  go_enter Try.func48, Try.ntmps48
  go_wp2_with (at_builtin; refine wpList_append_own _ rfl _ _ 44 rfl w.heap.size 50 j0 (.agg #[.int .i64 0, .int .i64 0]) 2 16 Try.underlying44 ji0 jz0 jz1 jz2 rfl (by decide) (.slice (some ⟨w.heap.size, 0, none⟩) 0 0) 0 [] rfl HO.out ⟨g, o, none⟩ b.length c (fl b) rfl hfll (prl_news HP.out) fl_one (by unfold maxLen; omega) (by omega) hgr ?_)
  intro v2 w2 hown2 hgrow2 _
  have HO2 := Lib.hid hown2
  have HG := Lib.hid hgrow2
  clear hown2 hgrow2
  go_wp2
  go_ret
  exact ⟨_, rfl, HO2.out, HB.out.grown HG.out hgr (fun q hq => by simp [Value.ownBlock] at hq; omega)⟩
theorem hs_get {A B C D F : Prop} {wq V : World} (h : A ∧ B ∧ C ∧ D ∧ F ∧ Below wq.heap.size wq V) : A ∧ B ∧ C ∧ D ∧ F ∧ Below wq.heap.size wq V := h
theorem al_one {U W : World} {u v : Value} {t : TypeId} (h : Below (U.alloc (.cells #[u, v] t)).drew.heap.size (U.alloc (.cells #[u, v] t)).drew W) :
    Two W U.heap.size u v := two_to (two1 (two_new U u v t)) h
theorem al_two {U W : World} {u v u' v' : Value} {t t' : TypeId} (h : Below ((U.alloc (.cells #[u, v] t)).alloc (.cells #[u', v'] t')).drew.heap.size ((U.alloc (.cells #[u, v] t)).alloc (.cells #[u', v'] t')).drew W) :
    Two W U.heap.size u v ∧ Two W (U.heap.size + 1) u' v' := by
  refine ⟨two_to (two1 ((two_new U u v t).alloc _)) h, ?_⟩
  have := two1 (two_new (U.alloc (.cells #[u, v] t)) u' v' t')
  rw [World.size_alloc] at this
  exact two_to this h
set_option maxHeartbeats 8000000 in
theorem extended_any (x : NT) (HNV0 : NVal x) (b : List (Int × Int)) (hbo : BOk x.init.length b) (ab : Option Addr) (cb : Nat) (w : World) (h1 : NOpL w w.heap.size x.ao x.co x.ops) (h2 : PrL w w.heap.size ab cb b) :
    Calls Try.prog 38 #[.slice x.ao x.ops.length x.co, .slice ab b.length cb] w (BdO w (opK x b x.ops.length)) := by
  have hbl := hbo.len
  have hn8 : b.length ≤ 8 := by have := HNV0.n8; omega
  have h1b : 1 ≤ b.length := by have := HNV0.n1; omega
  have HOKS := Lib.hid (fun k hk => (by rw [hbl]; exact HNV0.ops k hk : NOpOk b.length (nop x.ops k)))
  have HBO := Lib.hid (by rw [hbl]; exact hbo : BOk b.length b)
  have HOLN := Lib.hid (fun k => (by rw [hbl]; exact (opK_ok (x := x) hbo k).len : (opK x b k).length = b.length))
  have hmo := HNV0.m
  have HCL := Lib.hid (cloneP_any ab cb b w h2 h1b hn8)
  have HX := Lib.hid h1
  have HP := Lib.hid (fun (W : World) (h : Below w.heap.size w W) => h2.to h h.size)
  clear h1 h2 hbl hbo
  go_enter Try.func38, Try.ntmps38
  go_wp2_with (go_at_call 48; (with_reducible refine HCL.out.mono ?_); rintro e w1 ⟨v1, rfl, ho1, hb1⟩; obtain ⟨g, cap, rfl, hg1, hg2⟩ := own_some ho1 h1b; have HO1 := Lib.hid ho1; have HB1 := Lib.hid hb1; clear ho1 hb1)
  go_loopw [16] (fun i wr => ∃ k : Nat, k ≤ x.ops.length ∧ i = .int .i64 k ∧ Below w.heap.size w wr ∧ wr.ownsRow w.heap.size 50 2 (.slice (some ⟨g, 0, none⟩) b.length cap) b.length (fl (opK x b k))) (fun i _ => x.ops.length - (intOf i).toNat)
  case atStart => exact ⟨0, by omega, rfl, HB1.out, HO1.out⟩
  case round =>
    obtain ⟨k, hk, rfl, hb, hrow⟩ := hrel
    have HB := Lib.hid hb
    have HR := Lib.hid hrow
    clear hb hrow HO1 HB1
    by_cases hlt : k < x.ops.length
    case neg =>
      have hge : ¬ ((k : Int) < x.ops.length) := by omega
      have hke : k = x.ops.length := by omega
      have HKE := Lib.hid hke
      clear hke hlt hk
      go_wp2
      go_ret
      exact ⟨_, rfl, by have := HR.out; rw [HKE.out] at this; exact owp_len this (HOLN.out _), HB.out⟩
    case pos =>
      obtain ⟨bb, p, a1, a2, c1, c2, hA, hbl, hq, hpre, hch⟩ := HX.out.at_ hlt
      obtain ⟨q0, q1, q2⟩ := hq.to HB.out hbl
      have hok := HOKS.out k hlt
      have hstep : opK x b (k + 1) = if poss (nop x.ops k).pre b then chK b (nop x.ops k).ch (opK x b k) (nop x.ops k).ch.length else opK x b k := rfl
      have HLN := Lib.hid (HOLN.out k)
      have HNX := Lib.hid (HOLN.out (k + 1))
      have HLO := Lib.hid (opK_ok (x := x) HBO.out k)
      generalize nop x.ops k = o at *
      generalize hL0 : opK x b k = L at *
      have hbx : Below wr.heap.size wr (wr.alloc (.cells #[.slice a1 o.pre.length c1, .slice a2 o.ch.length c2, .int .i64 o.cost] 53)) := by go_grown
      have HB0 := Lib.hid (HB.out.trans (hbx.mono HB.out.size))
      have HR0 := Lib.hid (own_to HR.out hbx)
      have HT0 := Lib.hid (tri_new wr (.slice a1 o.pre.length c1) (.slice a2 o.ch.length c2) (.int .i64 o.cost) 53)
      have hMH := mayHold_any b.length hn8 a1 ab c1 cb o.pre b hok.pre.2 HBO.out _ (hpre.to HB0.out HB0.out.size) (HP.out _ HB0.out)
      have HCC := Lib.hid (fun (W : World) (h : Below w.heap.size w W) => hch.to h h.size)
      have HCW := Lib.hid hch
      have HCK := Lib.hid hok.ch
      have hlc := Nat.le_trans hch.le hch.max
      unfold maxLen at hlc
      have HL0 := Lib.hid hL0
      rw [hA]
      have HAO := Lib.hid hA
      clear hbx hq hpre hch hok hL0 hA
      cases hps : poss o.pre b
      · rw [hps] at hMH hstep
        have HMH := Lib.hid hMH
        have HST := Lib.hid (show opK x b (k + 1) = L by rw [hstep]; rfl)
        clear hMH hps hstep
        go_wp2_with (go_at_call 32; (with_reducible refine (HMH.out).mono ?_); rintro e w2 ⟨rfl, hb2⟩; have HB2 := Lib.hid (HB0.out.trans (hb2.mono HB0.out.size)); have HR2 := Lib.hid (own_to HR0.out hb2); have HT2 := Lib.hid (HT0.out.to hb2); obtain ⟨_, t0, t1, t2⟩ := HT2.out; clear hb2)
        go_roundw
        case rel => exact ⟨k + 1, by omega, by go_num, HB2.out, by rw [HST.out]; exact HR2.out⟩
        case measure => simp [intOf]; omega
      · rw [hps] at hMH hstep
        have HMH := Lib.hid hMH
        have HST := Lib.hid (show opK x b (k + 1) = chK b o.ch L o.ch.length by rw [hstep]; rfl)
        clear hMH hps hstep
        go_wp2_with (go_at_call 32; (with_reducible refine (HMH.out).mono ?_); rintro e w2 ⟨rfl, hb2⟩; have HB2 := Lib.hid (HB0.out.trans (hb2.mono HB0.out.size)); have HR2 := Lib.hid (own_to HR0.out hb2); have HT2 := Lib.hid (HT0.out.to hb2); obtain ⟨_, t0, t1, t2⟩ := HT2.out; clear hb2)
        go_loopw [28] (fun j wv => ∃ j' : Nat, j' ≤ o.ch.length ∧ j = .int .i64 j' ∧ Below w.heap.size w wv ∧ wv.ownsRow w.heap.size 50 2 (.slice (some ⟨g, 0, none⟩) b.length cap) b.length (fl (chK b o.ch L j'))) (fun j _ => o.ch.length - (intOf j).toNat)
        case atStart => exact ⟨0, by omega, rfl, HB2.out, HR2.out⟩
        case round =>
          obtain ⟨j, hj, rfl, hb, hrow⟩ := hrel
          have HBV := Lib.hid hb
          have HRV := Lib.hid hrow
          clear hb hrow HB2 HR2 HT2 t0 t1 t2
          by_cases hlj : j < o.ch.length
          case neg =>
            have hge : ¬ ((j : Int) < o.ch.length) := by omega
            have HJE := Lib.hid (show j = o.ch.length by omega)
            clear hlj hj
            go_wp2
            go_roundw
            case rel => exact ⟨k + 1, by omega, by go_num, HBV.out, by rw [HST.out]; have := HRV.out; rw [HJE.out] at this; exact this⟩
            case measure => simp [intOf]; omega
          case pos =>
            obtain ⟨bc, pc, ac, cc, hAc, hblc, hqw, hf⟩ := HCW.out.at_ hlj
            have hqc := hqw.to HBV.out hblc
            subst hAc
            have hck := HCK.out j hlj
            obtain ⟨m, cf, k0, hC, hm⟩ : ∃ (m : Nat) (cf : List Int) (k0 : Int), chg o.ch j = ⟨(m : Int), cf, k0⟩ ∧ m < b.length := by
              have := hck.v
              refine ⟨(chg o.ch j).v.toNat, (chg o.ch j).f, (chg o.ch j).c, ?_, by omega⟩
              rw [Int.toNat_of_nonneg this.1]
            have hcs : chK b o.ch L (j + 1) = (chK b o.ch L j).set m (up1 (prx (chK b o.ch L j) m) (lowS cf b + k0) (highS cf b + k0)) := by
              show updC b (chK b o.ch L j) (chg o.ch j) = _
              rw [hC]; rfl
            have hcl : (chK b o.ch L j).length = b.length := (chK_ok HLO.out j).len
            rw [hC] at hqc hf hck
            obtain ⟨r0, r1, r2⟩ := hqc
            simp only at r0 r1 r2 hf
            have hfl := fl_at (b := chK b o.ch L j) (k := m) (by omega)
            have hz1 := HRV.out.cellAt (m * 2) (by omega)
            have hz2 := HRV.out.cellAt (m * 2 + 1) (by omega)
            have hz3 := HRV.out.frozenAt (m * 2)
            have hz4 := HRV.out.frozenAt (m * 2 + 1)
            rw [hfl.1] at hz1
            rw [hfl.2] at hz2
            unfold up1 at hcs
            generalize (prx (chK b o.ch L j) m).1 = lo at *
            generalize (prx (chK b o.ch L j) m).2 = hi at *
            generalize hZ1 : lowS cf b + k0 = za at *
            generalize hZ2 : highS cf b + k0 = zb at *
            have HZ1 := Lib.hid hZ1
            have HZ2 := Lib.hid hZ2
            have HCS := Lib.hid hcs
            have HCL2 := Lib.hid hcl
            have hbx : Below wr.heap.size wr (wr.alloc (.cells #[.int .i64 (m : Int), .slice ac cf.length cc, .int .i64 k0] 55)) := by go_grown
            have HQ := Lib.hid (tri_new wr (.int .i64 (m : Int)) (.slice ac cf.length cc) (.int .i64 k0) 55)
            have HBQ := Lib.hid (HBV.out.trans (hbx.mono HBV.out.size))
            have HOQ := Lib.hid (own_to HRV.out hbx)
            have hwlt : wr.heap.size < (wr.alloc (.cells #[.int .i64 (m : Int), .slice ac cf.length cc, .int .i64 k0] 55)).heap.size := by simp
            have hgl : g < wr.heap.size := (HRV.out.lt g rfl).2
            have y1 : (wr.alloc (.cells #[.int .i64 (m : Int), .slice ac cf.length cc, .int .i64 k0] 55)).cell? ⟨g, m * 2, none⟩ = _ := (hbx.cell (p := ⟨g, m * 2, none⟩) hgl).trans hz1
            have y2 : (wr.alloc (.cells #[.int .i64 (m : Int), .slice ac cf.length cc, .int .i64 k0] 55)).cell? ⟨g, m * 2 + 1, none⟩ = _ := (hbx.cell (p := ⟨g, m * 2 + 1, none⟩) hgl).trans hz2
            have y3 : (wr.alloc (.cells #[.int .i64 (m : Int), .slice ac cf.length cc, .int .i64 k0] 55)).frozen? ⟨g, m * 2, none⟩ = _ := (hbx.frozen (p := ⟨g, m * 2, none⟩) hgl).trans hz3
            have y4 : (wr.alloc (.cells #[.int .i64 (m : Int), .slice ac cf.length cc, .int .i64 k0] 55)).frozen? ⟨g, m * 2 + 1, none⟩ = _ := (hbx.frozen (p := ⟨g, m * 2 + 1, none⟩) hgl).trans hz4
            have HGG := Lib.hid hg1
            have HGL := Lib.hid (Nat.lt_trans hgl hwlt)
            have hml : (m : Int) < (b.length : Int) := by omega
            clear hZ1 hZ2 hcs hcl hqw hC hbx hz1 hz2 hz3 hz4 hfl
            go_wp2
            generalize hWQ : wr.alloc (.cells #[.int .i64 (m : Int), .slice ac cf.length cc, .int .i64 k0] 55) = wq at *
            have HWQ := Lib.hid hWQ
            clear hWQ
            have HSO := Lib.hid (fun (V : World) (h : Below wq.heap.size wq V) => (⟨(h.cell (p := ⟨wr.heap.size, 0, none⟩) hwlt).trans HQ.out.c0, (h.cell (p := ⟨wr.heap.size, 1, none⟩) hwlt).trans HQ.out.c1, (h.cell (p := ⟨wr.heap.size, 2, none⟩) hwlt).trans HQ.out.c2, (h.cell (p := ⟨g, m * 2, none⟩) (Nat.lt_trans hgl hwlt)).trans y1, (h.cell (p := ⟨g, m * 2 + 1, none⟩) (Nat.lt_trans hgl hwlt)).trans y2, h⟩ : V.cell? ⟨wr.heap.size, 0, none⟩ = some (.int .i64 (m : Int)) ∧ V.cell? ⟨wr.heap.size, 1, none⟩ = some (.slice ac cf.length cc) ∧ V.cell? ⟨wr.heap.size, 2, none⟩ = some (.int .i64 k0) ∧ V.cell? ⟨g, m * 2, none⟩ = some (.int .i64 lo) ∧ V.cell? ⟨g, m * 2 + 1, none⟩ = some (.int .i64 hi) ∧ Below wq.heap.size wq V))
            have HCH := Lib.hid (fun (V : World) (h : Below wq.heap.size wq V) => changed_any b.length hn8 ⟨(m : Int), cf, k0⟩ hck ac ab cc cb b HBO.out V (hf.to (HBQ.out.trans (h.mono HBQ.out.size)) (HBQ.out.trans (h.mono HBQ.out.size)).size) (HP.out _ (HBQ.out.trans (h.mono HBQ.out.size))))
            simp only [HZ1.out, HZ2.out] at HCH
            have HYY := Lib.hid (And.intro y3 y4)
            clear hck hf y1 y2 y3 y4
            go_region_held3 (fun V => V.cell? ⟨wr.heap.size, 0, none⟩ = some (.int .i64 (m : Int)) ∧ V.cell? ⟨wr.heap.size, 1, none⟩ = some (.slice ac cf.length cc) ∧ V.cell? ⟨wr.heap.size, 2, none⟩ = some (.int .i64 k0) ∧ V.cell? ⟨g, m * 2, none⟩ = some (.int .i64 lo) ∧ V.cell? ⟨g, m * 2 + 1, none⟩ = some (.int .i64 hi) ∧ Below wq.heap.size wq V) (first | assumption | (exact HSO.out _ (by (repeat' (first | exact HB5.out | exact Below.refl _ _ | refine Below.drew ?_ | refine b1a (Nat.le_refl _) ?_ _ | refine Below.setCell ?_ (by first | (simp; done) | (simp; omega)) _))))) (first | (go_at_call 44; (with_reducible refine (HCH.out _ ?_).mono ?_); (repeat' (first | exact HB5.out | exact Below.refl _ _ | refine Below.drew ?_ | refine b1a (Nat.le_refl _) ?_ _ | refine Below.setCell ?_ (by first | (simp; done) | (simp; omega)) _)); rintro e w5 ⟨rfl, hb⟩; have HB5 := Lib.hid (bel_up (U := wq) (by (repeat' (first | exact HB5.out | exact Below.refl _ _ | refine Below.drew ?_ | refine b1a (Nat.le_refl _) ?_ _ | refine Below.setCell ?_ (by first | (simp; done) | (simp; omega)) _))) hb); have hsz5 : wq.heap.size ≤ w5.heap.size := (by have := hb.size; simp at this; omega); first | (have nn := al_two hb; obtain ⟨⟨n0, n1, n2, n3, n4⟩, ⟨o0, o1, o2, o3, o4⟩⟩ := nn) | (have nn := al_one hb; have nf := nn.alloc (.cells #[.int .i64 0, .int .i64 0] 50); have ng := nn.alloc (.cells #[.int .i64 lo, .int .i64 hi] 50); obtain ⟨n0, n1, n2, n3, n4⟩ := nn; obtain ⟨_, o1, o2, o3, o4⟩ := nf; obtain ⟨_, i1, i2, i3, i4⟩ := ng; have hn1 : ¬ wq.heap.size = w5.heap.size := (by omega); have hn2 : ¬ w5.heap.size = wq.heap.size := (by omega)) | skip))
            all_goals
              have hS := hs_get (wq := wq) (by assumption)
              obtain ⟨e0, e1, e2, e3, e4, e5⟩ := hS
              have e6 := (e5.frozen (p := ⟨g, m * 2, none⟩) HGL.out).trans HYY.out.1
              have e7 := (e5.frozen (p := ⟨g, m * 2 + 1, none⟩) HGL.out).trans HYY.out.2
              have HE5 := Lib.hid e5
              clear e5
              have v1 := min_if lo za
              have v2 := max_if (-1000000) (min lo za)
              have v3 := max_if hi zb
              have v4 := min_if 1000000 (max hi zb)
              go_wp2
              go_roundw
              case rel => exact ⟨j + 1, by omega, by go_num, ((HBQ.out.trans (HE5.out.mono HBQ.out.size)).setCell (p := ⟨g, m * 2, none⟩) HGG.out _).setCell (p := ⟨g, m * 2 + 1, none⟩) HGG.out _, by rw [HCS.out]; exact owp_set (own_to HOQ.out HE5.out) HCL2.out hm (max (-1000000) (min lo za), min 1000000 (max hi zb))⟩
              case measure => simp [intOf]; omega
end Go.Proofs.Ytiafplmaigpmeaa
