/- BoundsOf of the reference. -/
import Derived.Test.YtiafplmaigpmeaaNbp
namespace Go.Proofs.Ytiafplmaigpmeaa
open Go.RowKit
set_option linter.unusedSimpArgs false
set_option linter.unusedVariables false
set_option maxRecDepth 100000

def bd0 (x : NT) (k : Nat) : List (Int × Int) := (x.init.take k).map (fun z => (z, z))
theorem bd0_len {x : NT} {k : Nat} (h : k ≤ x.init.length) : (bd0 x k).length = k := by simp [bd0]; omega
theorem bd0_succ {x : NT} {k : Nat} (h : k < x.init.length) : bd0 x (k + 1) = bd0 x k ++ [(ix x.init k, ix x.init k)] := by
  unfold bd0
  rw [take_succ_ix h, List.map_append]
  rfl
theorem bd0_all (x : NT) : bd0 x x.init.length = bdn x 0 := by unfold bd0; rw [List.take_length]; rfl
theorem info_pr : (Try.prog.info? 50).map (fun i => (i.zero, i.size, i.bytes)) = some (some (.agg #[.int .i64 0, .int .i64 0]), 2, 16) := by kernel_rfl
theorem last3n {P1 P2 Q : Prop} (h : P1 ∧ P2 ∧ Q) : Q := h.2.2
theorem b1d {n : Nat} {U V : World} (h : Below n U V) : Below n U V.drew := h.drew
theorem b1a {n : Nat} {U V : World} (hn : n ≤ U.heap.size) (h : Below n U V) (o : Obj) : Below n U (V.alloc o) := h.alloc (Nat.le_trans hn h.size) o
theorem b1g {n : Nat} {U V V' : World} {row : Option Nat} (hn : n ≤ U.heap.size) (h : Below n U V) (hg : V.grownBy V' row) (hr : ∀ k, row = some k → n ≤ k) : Below n U V' := h.grown hg (Nat.le_trans hn h.size) hr
theorem two_news {W : World} {g : Nat} {u v : Value} (h0 : W.cell? ⟨g, 0, none⟩ = some u) (h1 : W.cell? ⟨g, 1, none⟩ = some v) : ∀ j y, ([u, v] : List Value)[j]? = some y → W.cell? ((⟨g, 0, none⟩ : Addr).add j) = some y := by
  intro j y hj
  rw [Addr.add_lit]
  match j, hj with
  | 0, hj => simp at hj; subst hj; simpa using h0
  | 1, hj => simp at hj; subst hj; simpa using h1
  | j + 2, hj => simp at hj
theorem two_news_new (W : World) (u v : Value) (t : TypeId) : ∀ j y, ([u, v] : List Value)[j]? = some y → (W.alloc (.cells #[u, v] t)).cell? ((⟨W.heap.size, 0, none⟩ : Addr).add j) = some y :=
  two_news (by simp) (by simp)
theorem prl_news {W : World} {B g o C : Nat} {b : List (Int × Int)} (h : PrL W B (some ⟨g, o, none⟩) C b) : ∀ j y, (fl b)[j]? = some y → W.cell? ((⟨g, o, none⟩ : Addr).add j) = some y := by
  intro j y hj
  have hlt : j < b.length * 2 := by rw [← fl_len]; exact (List.getElem?_eq_some_iff.1 hj).1
  obtain ⟨g', o', e, _, hc⟩ := h.cells (by omega)
  cases e
  rw [Addr.add_lit]
  have h2 := hc (j / 2) (by omega)
  have h3 := fl_at (b := b) (k := j / 2) (by omega)
  rcases Nat.mod_two_eq_zero_or_one j with hm | hm
  · have e : j = j / 2 * 2 := by omega
    rw [e] at hj ⊢
    rw [h3.1] at hj
    rw [← hj]; exact h2.1
  · have e : j = j / 2 * 2 + 1 := by omega
    rw [e] at hj ⊢
    rw [h3.2] at hj
    rw [← hj, ← Nat.add_assoc]; exact h2.2
theorem quiet_add {P : Program} {f : FuncId} {args : Array Value} {w : World} {n x : Nat} {v : Value} (h : Calls P f args (w.drewN (n + x)) fun e w' => e = .returned v ∧ ∃ m, w' = (w.drewN (n + x)).drewN m) :
    Calls P f args (w.drewN (n + x)) fun e w'' => e = .returned v ∧ ∃ k, w'' = w.drewN (n + k) :=
  h.mono fun _ _ ⟨he, m, hm⟩ => ⟨he, x + m, by rw [hm, World.drewN_drewN, Nat.add_assoc]⟩
theorem prx_same {u : List (Int × Int)} {m : Nat} {p : Int × Int} (hm : m < u.length) : prx (u.set m p) m = p := by rw [prx_set hm, if_pos rfl]
theorem prx_set2 {u : List (Int × Int)} {m : Nat} {p q : Int × Int} (hm : m < u.length) : prx ((u.set m p).set m q) m = q := by rw [List.set_set, prx_same hm]
theorem set_prx (u : List (Int × Int)) (m : Nat) : u.set m (prx u m) = u := by
  by_cases hm : m < u.length
  · rw [show prx u m = u[m] by simp [prx, List.getD, hm]]
    exact List.set_getElem_self hm
  · exact List.set_eq_of_length_le (by omega)
theorem own_some {W : World} {base n : Nat} {e : TypeId} {v : Value} {xs : List Value} (h : W.ownsRow base e 2 v n xs) (hn : 1 ≤ n) : ∃ g cap, v = .slice (some ⟨g, 0, none⟩) n cap ∧ base ≤ g ∧ g < W.heap.size := by
  rcases h.2 with ⟨_, h0⟩ | ⟨g, cap, cur, rfl, hb, hh, _⟩
  · omega
  · exact ⟨g, cap, rfl, hb, (Array.getElem?_eq_some_iff.1 hh).1⟩
theorem owp_len {W : World} {base n : Nat} {v : Value} {b : List (Int × Int)} (h : W.ownsRow base 50 2 v n (fl b)) (hl : b.length = n) : OwP W base v b := by
  subst hl
  exact h
theorem Tri.far {w : World} {g : Nat} {u v y : Value} (h : Tri w g u v y) {p : Addr} (hp : p.block ≠ g) (z : Value) : Tri (w.setCell p z) g u v y := by
  refine ⟨by simpa using h.lt, ?_, ?_, ?_⟩
  · rw [World.cell?_setCell_other _ _ _ _ (by rintro rfl; exact hp rfl)]; exact h.c0
  · rw [World.cell?_setCell_other _ _ _ _ (by rintro rfl; exact hp rfl)]; exact h.c1
  · rw [World.cell?_setCell_other _ _ _ _ (by rintro rfl; exact hp rfl)]; exact h.c2
set_option maxHeartbeats 8000000 in
theorem boundsOf_any (x : NT) (hv : NVal x) (steps : Nat) (hs : steps ≤ 60) (w : World) (hX : NTIn w w.heap.size x) :
    Calls Try.prog 20 #[.agg #[.slice x.ai x.init.length x.ci, .slice x.ag x.goal.length x.cg, .slice x.ao x.ops.length x.co], .int .i64 steps] w fun e w' => ∃ a c, e = .returned (.slice a (bdn x steps).length c) ∧ PrL w' w'.heap.size a c (bdn x steps) ∧ Below w.heap.size w w' := by
  have hn8 := hv.n8
  have hn1 := hv.n1
  have HV := Lib.hid hv
  have HX0 := Lib.hid (fun (W : World) (h : Below w.heap.size w W) => hX.to h h.size)
  have HB0 := Lib.hid (show Below w.heap.size w (w.alloc (.cells #[.slice x.ai x.init.length x.ci, .slice x.ag x.goal.length x.cg, .slice x.ao x.ops.length x.co] 26)) by go_grown)
  have HBX := Lib.hid (nbox_new w x 26)
  obtain ⟨j0, ji0, jz0, jz1, jz2⟩ := info_parts info_pr
  obtain ⟨b, o, hai, hbi, _⟩ := hX.init.nums.at_ (k := 0) (by omega)
  clear hv hX
  rw [hai] at HB0 HBX
  rw [hai]
  go_enter Try.func20, Try.ntmps20
  go_wp2
  go_loopw [5, 6] (fun v i wr => ∃ (k : Nat) (av : Option Addr) (cv : Nat), k ≤ x.init.length ∧ i = .int .i64 k ∧ v = .slice av k cv ∧ wr.ownsRow (w.heap.size + 1) 50 2 (.slice av k cv) k (fl (bd0 x k)) ∧ NBox wr w.heap.size x ∧ Below w.heap.size w wr) (fun _ i _ => x.init.length - (intOf i).toNat)
  case atStart => exact ⟨0, none, 0, by omega, rfl, rfl, World.ownsRow_nil _ _ _ _, HBX.out, HB0.out⟩
  case round =>
    obtain ⟨k, av, cv, hk, rfl, rfl, hown, hbox, hb⟩ := hrel
    have HOW := Lib.hid hown
    have HBX1 := Lib.hid hbox
    have HB1 := Lib.hid hb
    clear hown hbox hb
    have t0 := HBX1.out.c0
    rw [hai] at t0
    by_cases hlt : k < x.init.length
    case pos =>
      obtain ⟨b', o', e', _, hc0⟩ := (HX0.out _ HB1.out).init.nums.at_ hlt
      rw [hai] at e'
      cases e'
      have hsz0 : w.heap.size + 1 ≤ wr.heap.size := HBX1.out.lt
      have HSZ := Lib.hid hsz0
      have HB2 := Lib.hid (bd0_succ hlt)
      generalize ix x.init k = z at *
      have HSO := Lib.hid (fun (V : World) (h : Below (w.heap.size + 1) wr V) => (⟨(h.cell (p := ⟨w.heap.size, 0, none⟩) (Nat.lt_succ_self _)).trans t0, (h.cell (p := ⟨b, o + k, none⟩) (Nat.lt_succ_of_lt hbi)).trans hc0, h⟩ : V.cell? ⟨w.heap.size, 0, none⟩ = some (.slice (some ⟨b, o, none⟩) x.init.length x.ci) ∧ V.cell? ⟨b, o + k, none⟩ = some (.int .i64 z) ∧ Below (w.heap.size + 1) wr V))
      have hww := Below.refl (w.heap.size + 1) wr
      have hwk : IntKind.i64.wrap ((k : Int) + 1) = (k : Int) + 1 := IntWalk.i64_in _ (by omega)
      go_wp2
      go_region_held3 (fun V => V.cell? ⟨w.heap.size, 0, none⟩ = some (.slice (some ⟨b, o, none⟩) x.init.length x.ci) ∧ V.cell? ⟨b, o + k, none⟩ = some (.int .i64 z) ∧ Below (w.heap.size + 1) wr V) (first | (refine ⟨?_, ?_, ?_⟩ <;> assumption) | (exact HSO.out _ hww.drew) | (exact HSO.out _ hww) | (exact HSO.out _ (b1d (last3n (by assumption)))) | (exact HSO.out _ (b1a HSZ.out (last3n (by assumption)) _)) | (exact HSO.out _ (b1d (b1a HSZ.out (last3n (by assumption)) _))) | (exact HSO.out _ (b1a HSZ.out (b1d (last3n (by assumption))) _)) | (exact HSO.out _ (b1d (b1a HSZ.out hww _))) | (exact HSO.out _ (b1a HSZ.out hww _)) | (exact HSO.out _ (b1g HSZ.out (last3n (by assumption)) (by assumption) (fun q hq => (HOW.out.lt q hq).1)))) (first | (refine step_append_lies _ (by rfl) _ _ _ (by rfl) (w.heap.size + 1) 50 j0 (.agg #[.int .i64 0, .int .i64 0]) 2 16 Try.underlying44 ji0 jz0 jz1 jz2 rfl (by omega) (.slice av k cv) k (fl (bd0 x k)) (by rfl) ?_ _ 1 1 [.int .i64 z, .int .i64 z] (by rfl) (by rfl) ?_ (by simp [Value.oneCell']) (by omega) (by unfold maxLen; omega) (by omega) ?_ _ rfl ?_; (first | exact HOW.out | exact HOW.out.alloc _ | exact (HOW.out.alloc _).drew | exact (HOW.out.drew.alloc _) | exact HOW.out.drew); (first | exact two_news_new _ _ _ _); (have := HSZ.out; simp; omega); intro gg cap w1 hown1 hgrow hat hlt1; have HON := Lib.hid hown1))
      all_goals
        have hb9 : Below (w.heap.size + 1) wr w1 := (last3n (by assumption))
        have HB9 := Lib.hid hb9
        clear hb9
        go_wp2
        go_roundw
        case rel =>
          refine ⟨k + 1, some ⟨gg, 0, none⟩, cap, by omega, by go_num, rfl, ?_, HBX1.out.to HB9.out (by omega), HB1.out.trans (HB9.out.mono (by omega))⟩
          rw [HB2.out, fl_app]
          exact HON.out
        case measure => simp [intOf]; omega
    case neg =>
      obtain rfl : k = x.init.length := by omega
      have hge : ¬ ((x.init.length : Int) < (x.init.length : Int)) := by omega
      have hb0l := (bdn_ok HV.out 0).len
      have how := HOW.out
      rw [bd0_all] at how
      obtain ⟨a0, c0, e0, hp0⟩ := owp_prl (owp_len how hb0l)
      rw [hb0l] at e0
      cases e0
      have HP0 := Lib.hid hp0
      clear hb0l how hp0
      go_wp2
      go_loopw [5, 7] (fun v s wr => ∃ (k : Nat) (a : Option Addr) (c : Nat), s = .int .i64 k ∧ k ≤ steps ∧ v = .slice a x.init.length c ∧ PrL wr wr.heap.size a c (bdn x k) ∧ NBox wr w.heap.size x ∧ Below w.heap.size w wr) (fun _ s _ => steps - (intOf s).toNat)
      case atStart => exact ⟨0, _, _, rfl, by omega, rfl, HP0.out, HBX1.out, HB1.out⟩
      case round =>
        obtain ⟨k, a, c, rfl, hk, rfl, hp, hbox, hb⟩ := hrel
        have HP := Lib.hid hp
        have HBX2 := Lib.hid hbox
        have HB2 := Lib.hid hb
        clear hp hbox hb
        by_cases hlt2 : k < steps
        case neg =>
          obtain rfl : k = steps := by omega
          have hge : ¬ ((k : Int) < (k : Int)) := by omega
          go_wp2
          go_ret
          exact ⟨a, c, by rw [(bdn_ok HV.out k).len]; rfl, HP.out, HB2.out⟩
        case pos =>
          have hwk : IntKind.i64.wrap ((k : Int) + 1) = (k : Int) + 1 := IntWalk.i64_in _ (by omega)
          have hbl := (bdn_ok HV.out k).len
          have hbo := bdn_ok HV.out k
          obtain ⟨g0, o0', rfl, hg0, _, _⟩ := HP.out.at_ (k := 0) (by omega)
          have HBO := Lib.hid hbo
          have HBS := Lib.hid (show bdn x (k + 1) = opK x (bdn x k) x.ops.length from rfl)
          generalize hbk : bdn x k = bb at *
          have HBL := Lib.hid hbl
          have hfll : (fl bb).length = x.init.length * 2 := by rw [fl_len, HBL.out]
          clear hbl hbo hbk
          go_wp2_with (at_builtin; refine wpList_append_own _ rfl _ _ 44 rfl wr.heap.size 50 j0 (.agg #[.int .i64 0, .int .i64 0]) 2 16 Try.underlying44 ji0 jz0 jz1 jz2 rfl (by decide) (.slice none 0 0) 0 [] rfl (World.ownsRow_nil _ _ _ _) ⟨g0, o0', none⟩ x.init.length c (fl bb) rfl hfll (prl_news HP.out) fl_one (by unfold maxLen; omega) (by omega) (Nat.le_refl _) ?_)
          intro v2 w2 hown2 hgrow2 _
          obtain ⟨g, cap, rfl, hgb, hgs⟩ := own_some hown2 hn1
          have HO2 := Lib.hid hown2
          have hb2 : Below wr.heap.size wr w2 := (Below.refl _ _).grown hgrow2 (Nat.le_refl _) (fun q hq => by simp [Value.ownBlock] at hq)
          obtain ⟨G, hG⟩ : ∃ G, G = wr.heap.size := ⟨_, rfl⟩
          obtain ⟨BG, hBG⟩ : ∃ P : World → Prop, P = fun V => Below wr.heap.size wr V := ⟨_, rfl⟩
          have HBG2 := Lib.hid (show BG w2 by rw [hBG]; exact hb2)
          have HKX := Lib.hid (fun (V : World) (h' : BG V) => (by rw [hBG] at h'; exact ⟨HX0.out _ (HB2.out.trans (h'.mono HB2.out.size)), HBX2.out.to h' HBX2.out.lt, HP.out.to h' h'.size⟩ : NTIn V V.heap.size x ∧ NBox V w.heap.size x ∧ PrL V V.heap.size (some ⟨g0, o0', none⟩) c bb))
          have HBW := Lib.hid (fun (V : World) (h' : BG V) => (by rw [hBG] at h'; exact HB2.out.trans (h'.mono HB2.out.size) : Below w.heap.size w V))
          have HBT := Lib.hid (fun (V V' : World) (h' : BG V) (h2 : Below V.heap.size V V') => (by rw [hBG] at h' ⊢; exact h'.trans (h2.mono h'.size) : BG V'))
          have HBS2 := Lib.hid (fun (V : World) (p : Addr) (u : Value) (h' : BG V) (hp : G ≤ p.block) => (by rw [hBG] at h' ⊢; exact h'.setCell (by rw [← hG]; exact hp) u : BG (V.setCell p u)))
          rw [← hG] at hgb hown2
          have HO2 := Lib.hid hown2
          have HGB := Lib.hid hgb
          clear hown2 hgrow2 hb2 hgb hgs hfll hG hBG
          go_wp2
          go_loopw [9] (fun i wv => ∃ q : Nat, q ≤ x.ops.length ∧ i = .int .i64 q ∧ wv.ownsRow G 50 2 (.slice (some ⟨g, 0, none⟩) x.init.length cap) x.init.length (fl (opK x bb q)) ∧ BG wv) (fun i _ => x.ops.length - (intOf i).toNat)
          case atStart => exact ⟨0, by omega, rfl, HO2.out, HBG2.out⟩
          case round =>
            obtain ⟨q, hq, rfl, hown, hbg⟩ := hrel
            have HOQ := Lib.hid hown
            have HBQ := Lib.hid hbg
            clear hown hbg
            have hmo := HV.out.m
            have t2 := (HKX.out _ HBQ.out).2.1.c2
            by_cases hlq : q < x.ops.length
            case neg =>
              obtain rfl : q = x.ops.length := by omega
              have hge : ¬ ((x.ops.length : Int) < (x.ops.length : Int)) := by omega
              have hll := (opK_ok (x := x) HBO.out x.ops.length).len
              obtain ⟨a9, c9, e9, hp9⟩ := owp_prl (owp_len HOQ.out hll)
              rw [hll] at e9
              cases e9
              have HP9 := Lib.hid hp9
              clear hll hp9
              go_wp2
              go_roundw
              case rel => exact ⟨k + 1, _, _, by go_num, by omega, rfl, by rw [HBS.out]; exact HP9.out, (HKX.out _ HBQ.out).2.1, HBW.out _ HBQ.out⟩
              case measure => simp [intOf]; omega
            case pos =>
              obtain ⟨b1, p1, a1, a2, c1, c2, hao, hbl1, hoc, hpre, hch⟩ := (HX0.out w (Below.refl _ _)).ops.at_ hlq
              obtain ⟨q0, q1, q2⟩ := hoc.to (HBW.out _ HBQ.out) hbl1
              rw [hao] at t2
              have HAO := Lib.hid hao
              have hok := HV.out.ops q hlq
              have hstep : opK x bb (q + 1) = if poss (nop x.ops q).pre bb then chK bb (nop x.ops q).ch (opK x bb q) (nop x.ops q).ch.length else opK x bb q := rfl
              have HWK := Lib.hid (opK_ok (x := x) HBO.out q)
              generalize nop x.ops q = o at *
              generalize opK x bb q = ww at *
              have HST := Lib.hid hstep
              have HOK := Lib.hid hok
              have hgq : g < wr.heap.size := (HOQ.out.lt g rfl).2
              have HPR := Lib.hid (fun (V : World) (h : BG V) => hpre.to (HBW.out V h) (HBW.out V h).size)
              have HCH := Lib.hid (fun (V : World) (h : BG V) => hch.to (HBW.out V h) (HBW.out V h).size)
              have hlc := Nat.le_trans hch.le hch.max
              unfold maxLen at hlc
              have hwq : IntKind.i64.wrap ((q : Int) + 1) = (q : Int) + 1 := IntWalk.i64_in _ (by omega)
              have HTR := Lib.hid (tri_new wr (.slice a1 o.pre.length c1) (.slice a2 o.ch.length c2) (.int .i64 o.cost) 53)
              have hal : Below wr.heap.size wr (wr.alloc (.cells #[.slice a1 o.pre.length c1, .slice a2 o.ch.length c2, .int .i64 o.cost] 53)) := (Below.refl _ _).alloc (Nat.le_refl _) _
              have HO3 := Lib.hid (own_to HOQ.out hal)
              have HB3 := Lib.hid (HBT.out _ _ HBQ.out hal)
              clear hao hbl1 hoc hpre hch hok hstep hal
              go_wp2
              clear q0 q1 q2 t2 t0
              generalize hgB : wr.heap.size = gB at *
              go_loopw [11] (fun j wz => ∃ jj : Nat, jj ≤ o.ch.length ∧ j = .int .i64 jj ∧ wz.ownsRow G 50 2 (.slice (some ⟨g, 0, none⟩) x.init.length cap) x.init.length (fl (chK bb o.ch ww jj)) ∧ BG wz ∧ Tri wz gB (.slice a1 o.pre.length c1) (.slice a2 o.ch.length c2) (.int .i64 o.cost) ∧ (poss o.pre bb = true ∨ jj = 0)) (fun j _ => o.ch.length - (intOf j).toNat)
              case atStart => exact ⟨0, by omega, rfl, HO3.out, HB3.out, HTR.out, .inr rfl⟩
              case round =>
                obtain ⟨jj, hj, rfl, hown, hbg, htr, hpj⟩ := hrel
                have HOZ := Lib.hid hown
                have HBZ := Lib.hid hbg
                have HTZ := Lib.hid htr
                have HPJ := Lib.hid hpj
                clear hown hbg htr hpj
                obtain ⟨_, o0, o1, o2⟩ := HTZ.out
                by_cases hlj : jj < o.ch.length
                case neg =>
                  obtain rfl : jj = o.ch.length := by omega
                  have hge : ¬ ((o.ch.length : Int) < (o.ch.length : Int)) := by omega
                  have HN := Lib.hid (show opK x bb (q + 1) = chK bb o.ch ww o.ch.length by
                    rw [HST.out]
                    rcases HPJ.out with h | h
                    · rw [if_pos h]
                    · rw [h]; split <;> rfl)
                  go_wp2
                  go_roundw
                  case rel => exact ⟨q + 1, by omega, by go_num, by rw [HN.out]; exact HOZ.out, HBZ.out⟩
                  case measure => simp [intOf]; omega
                case pos =>
                  have HCV := Lib.hid (conceivable_any x.init.length hn8 a1 (some ⟨g0, o0', none⟩) c1 c o.pre bb HOK.out.pre.2 HBO.out wr (HPR.out _ HBZ.out) (HKX.out _ HBZ.out).2.2)
                  rw [HBL.out] at HCV
                  cases hps : poss o.pre bb
                  case false =>
                    rw [hps] at HCV
                    have h0 : jj = 0 := by rcases HPJ.out with h | h; · rw [hps] at h; cases h
                                           · exact h
                    have HN := Lib.hid (show opK x bb (q + 1) = chK bb o.ch ww jj by rw [HST.out, if_neg (by simp [hps]), h0]; rfl)
                    clear h0
                    go_wp2_with (go_at_call 36; (with_reducible refine HCV.out.mono ?_); rintro e w5 ⟨rfl, md, rfl⟩)
                    have hdr : Below wr.heap.size wr (wr.drewN md) := belowN (Below.refl _ _) _
                    go_roundw
                    case rel => exact ⟨q + 1, by omega, by go_num, by rw [HN.out]; exact own_to HOZ.out hdr, HBT.out _ _ HBZ.out hdr⟩
                    case measure => simp [intOf]; omega
                  case true =>
                    rw [hps] at HCV
                    have HPS := Lib.hid hps
                    obtain ⟨b5, p5, a5, c5, hac, hbl5, hcc, hf⟩ := (HCH.out _ HBZ.out).at_ hlj
                    subst hac
                    have hok2 := HOK.out.ch jj hlj
                    have hcs : chK bb o.ch ww (jj + 1) = updC bb (chK bb o.ch ww jj) (chg o.ch jj) := rfl
                    have huo := chK_ok (b := bb) (ch := o.ch) HWK.out jj
                    generalize chg o.ch jj = cg at *
                    generalize chK bb o.ch ww jj = u at *
                    obtain ⟨cvv, cf, cn⟩ := cg
                    simp only at hf
                    have hcv := hok2.v
                    have hcn := hok2.c
                    have hfk : FOk x.init.length cf := hok2.fok
                    simp only at hcv hcn
                    obtain ⟨m, rfl⟩ := Int.eq_ofNat_of_zero_le hcv.1
                    have hmn : m < x.init.length := by omega
                    have hmu : m < u.length := by rw [huo.len]; exact hmn
                    have hpl := huo.lo m hmu
                    have hph := huo.hi m hmu
                    have hlb := low_bd hn8 hfk HBO.out
                    have hhb := high_bd hn8 hfk HBO.out
                    have hup : updC bb u ⟨(m : Int), cf, cn⟩ = u.set m (up1 (prx u m) (lowS cf bb + cn) (highS cf bb + cn)) := by simp [updC]
                    rw [hup] at hcs
                    have hfa := fl_at hmu
                    have HFA := Lib.hid hfa
                    have HCC := Lib.hid hcc
                    have HF := Lib.hid hf
                    have HCS := Lib.hid hcs
                    have HMU := Lib.hid hmu
                    clear hf hcs hok2 huo hup hfa hmu hcc
                    go_wp2_with (go_at_call 36; (with_reducible refine HCV.out.mono ?_); rintro e w5 ⟨rfl, md, hw5⟩; have hb5 : Below wr.heap.size wr w5 := (by rw [hw5]; exact belowN (Below.refl _ _) _); clear hw5; have HB5 := Lib.hid hb5; have HTZ5 := Lib.hid (HTZ.out.to hb5); have HOZ5 := Lib.hid (own_to HOZ.out hb5); clear o0 o1 o2; obtain ⟨_, o0, o1, o2⟩ := HTZ5.out; obtain ⟨r0, r1, r2⟩ := HCC.out.to hb5 hbl5; have k0 : w5.cell? ⟨g, m * 2, none⟩ = some (.int .i64 (prx u m).1) := (HOZ5.out.cellAt _ (by omega)).trans HFA.out.1; have k1 : w5.cell? ⟨g, m * 2 + 1, none⟩ = some (.int .i64 (prx u m).2) := (HOZ5.out.cellAt _ (by omega)).trans HFA.out.2; have f0 := HOZ5.out.frozenAt (m * 2); have f1 := HOZ5.out.frozenAt (m * 2 + 1); have hgz : g < w5.heap.size := (HOZ5.out.lt g rfl).2; clear hb5)
                    have hal4 : Below wr.heap.size wr (w5.alloc (.cells #[.int .i64 m, .slice a5 cf.length c5, .int .i64 cn] 55)) := HB5.out.alloc HB5.out.size _
                    have HAL4 := Lib.hid hal4
                    clear hal4
                    obtain ⟨ev, hev1, hev2, hex⟩ : ∃ ev : Int → Int, ev 1 = highS cf bb ∧ ev (-1) = lowS cf bb ∧ ∀ (s : Int) (V : World) (mm : Nat), V = (w5.alloc (.cells #[.int .i64 m, .slice a5 cf.length c5, .int .i64 cn] 55)).drewN mm → (s = 1 ∨ s = -1) →
                        Calls Try.prog 37 #[.slice a5 cf.length c5, .slice (some ⟨g0, o0', none⟩) x.init.length c, .int .i64 s] V fun e w' => e = .returned (.int .i64 (ev s)) ∧ ∃ m', w' = V.drewN m' := by
                      refine ⟨fun s => s * exK s cf bb cf.length, by show (1 : Int) * exK 1 _ _ _ = _; rw [ex_high, Int.one_mul]; rfl, by show (-1 : Int) * exK (-1) _ _ _ = _; rw [ex_low]; unfold lowS; omega, fun s V mm hV hs => ?_⟩
                      have hbv : Below wr.heap.size wr V := by rw [hV]; exact belowN HAL4.out _
                      have := extreme_any s hs x.init.length hn8 a5 (some ⟨g0, o0', none⟩) c5 c cf bb hfk HBO.out V (HF.out.to hbv hbv.size) (HKX.out _ (HBT.out _ _ HBZ.out hbv)).2.2
                      rw [HBL.out] at this
                      exact this
                    have HEX := Lib.hid hex
                    generalize lowS cf bb = L at *
                    generalize highS cf bb = H at *
                    have hpx : prx u m = ((prx u m).1, (prx u m).2) := rfl
                    have hup1 : up1 (prx u m) (L + cn) (H + cn) = up1 ((prx u m).1, (prx u m).2) (L + cn) (H + cn) := rfl
                    generalize (prx u m).1 = p0 at *
                    generalize (prx u m).2 = p1 at *
                    have hw1 : IntKind.i64.wrap (L + cn) = L + cn := IntWalk.i64_in _ (by omega)
                    have hw2 : IntKind.i64.wrap (H + cn) = H + cn := IntWalk.i64_in _ (by omega)
                    have hwj : IntKind.i64.wrap ((jj : Int) + 1) = (jj : Int) + 1 := IntWalk.i64_in _ (by omega)
                    have hmc : (m : Int) < (x.init.length : Int) := by omega
                    clear hex hfk hlb hhb
                    go_quiet ((go_at_call 37; exact Calls.quiet_of (HEX.out _ _ _ rfl (by decide))))
                    revert nq
                    intro nqa
                    go_wp2
                    go_quiet ((go_at_call 37; exact quiet_add (HEX.out _ _ _ rfl (by decide))))
                    -- the nine ways
                    have HST0 := Lib.hid (fun (V : World) (h : Below w5.heap.size w5 V) => (⟨own_to HOZ5.out h, HBT.out _ _ (HBT.out _ _ HBZ.out HB5.out) h, HTZ5.out.to h⟩ : V.ownsRow G 50 2 (.slice (some ⟨g, 0, none⟩) x.init.length cap) x.init.length (fl u) ∧ BG V ∧ Tri V gB (.slice a1 o.pre.length c1) (.slice (some ⟨b5, p5, none⟩) o.ch.length c2) (.int .i64 o.cost)))
                    have HSL := Lib.hid (fun (V : World) (y : List (Int × Int)) (A : Int) (hm : m < y.length) (h : V.ownsRow G 50 2 (.slice (some ⟨g, 0, none⟩) x.init.length cap) x.init.length (fl y) ∧ BG V ∧ Tri V gB (.slice a1 o.pre.length c1) (.slice (some ⟨b5, p5, none⟩) o.ch.length c2) (.int .i64 o.cost)) =>
                      (⟨by rw [← fl_lo hm]; exact (h.1.stored _ _).1, HBS2.out _ _ _ h.2.1 HGB.out, h.2.2.far (by simp; omega) _⟩ : (V.setCell ⟨g, m * 2, none⟩ (.int .i64 A)).ownsRow G 50 2 (.slice (some ⟨g, 0, none⟩) x.init.length cap) x.init.length (fl (y.set m (A, (prx y m).2))) ∧ BG (V.setCell ⟨g, m * 2, none⟩ (.int .i64 A)) ∧ Tri (V.setCell ⟨g, m * 2, none⟩ (.int .i64 A)) gB (.slice a1 o.pre.length c1) (.slice (some ⟨b5, p5, none⟩) o.ch.length c2) (.int .i64 o.cost)))
                    have HSH := Lib.hid (fun (V : World) (y : List (Int × Int)) (A : Int) (hm : m < y.length) (h : V.ownsRow G 50 2 (.slice (some ⟨g, 0, none⟩) x.init.length cap) x.init.length (fl y) ∧ BG V ∧ Tri V gB (.slice a1 o.pre.length c1) (.slice (some ⟨b5, p5, none⟩) o.ch.length c2) (.int .i64 o.cost)) =>
                      (⟨by rw [← fl_hi hm]; exact (h.1.stored _ _).1, HBS2.out _ _ _ h.2.1 HGB.out, h.2.2.far (by simp; omega) _⟩ : (V.setCell ⟨g, m * 2 + 1, none⟩ (.int .i64 A)).ownsRow G 50 2 (.slice (some ⟨g, 0, none⟩) x.init.length cap) x.init.length (fl (y.set m ((prx y m).1, A))) ∧ BG (V.setCell ⟨g, m * 2 + 1, none⟩ (.int .i64 A)) ∧ Tri (V.setCell ⟨g, m * 2 + 1, none⟩ (.int .i64 A)) gB (.slice a1 o.pre.length c1) (.slice (some ⟨b5, p5, none⟩) o.ch.length c2) (.int .i64 o.cost)))
                    have HW4 := Lib.hid (fun (kk : Nat) => (belowN ((Below.refl w5.heap.size w5).alloc (Nat.le_refl _) (.cells #[.int .i64 m, .slice a5 cf.length c5, .int .i64 cn] 55)) kk))
                    have HUP := Lib.hid hup1
                    have HPX := Lib.hid hpx
                    have HPL := Lib.hid hpl
                    have HPH := Lib.hid hph
                    clear hup1 hpx hpl hph
                    have hlo3 : (¬ L + cn < p0) ∨ (L + cn < p0 ∧ ¬ L + cn < -1000000) ∨ (L + cn < p0 ∧ L + cn < -1000000) := by omega
                    have hhi3 : (¬ p1 < H + cn) ∨ (p1 < H + cn ∧ ¬ 1000000 < H + cn) ∨ (p1 < H + cn ∧ 1000000 < H + cn) := by omega
                    rcases hlo3 with hl | hl | hl
                    · rcases hhi3 with hh | hh | hh
                      · have d1 : decide (L + cn < p0) = false := decide_eq_false (by have := HPL.out; have := HPH.out; omega)
                        have d2 : decide (p0 < -1000000) = false := decide_eq_false (by have := HPL.out; have := HPH.out; omega)
                        have d3 : decide (p1 < H + cn) = false := decide_eq_false (by have := HPL.out; have := HPH.out; omega)
                        have d4 : decide (1000000 < p1) = false := decide_eq_false (by have := HPL.out; have := HPH.out; omega)
                        have HQ := Lib.hid (show up1 (p0, p1) (L + cn) (H + cn) = (p0, p1) by have := HPL.out; have := HPH.out; unfold up1; simp only [Prod.mk.injEq]; constructor <;> omega)
                        clear hl hh
                        go_wp2
                        go_roundw
                        case rel =>
                          have s0 := HST0.out _ (HW4.out (nqa + nq))
                          refine ⟨jj + 1, by omega, by go_num, ?_, s0.2.1, s0.2.2, (by first | exact .inl HPS.out | simp)⟩
                          rw [HCS.out, HUP.out, HQ.out, ← HPX.out, set_prx]
                          exact s0.1
                        case measure => simp [intOf]; omega
                      · have d1 : decide (L + cn < p0) = false := decide_eq_false (by have := HPL.out; have := HPH.out; omega)
                        have d2 : decide (p0 < -1000000) = false := decide_eq_false (by have := HPL.out; have := HPH.out; omega)
                        have d3 : decide (p1 < H + cn) = true := decide_eq_true (by have := HPL.out; have := HPH.out; omega)
                        have d4 : decide (1000000 < H + cn) = false := decide_eq_false (by have := HPL.out; have := HPH.out; omega)
                        have HQ := Lib.hid (show up1 (p0, p1) (L + cn) (H + cn) = (p0, H + cn) by have := HPL.out; have := HPH.out; unfold up1; simp only [Prod.mk.injEq]; constructor <;> omega)
                        clear hl hh
                        go_wp2
                        go_roundw
                        case rel =>
                          have s0 := HST0.out _ (HW4.out (nqa + nq))
                          have s1 := HSH.out _ _ (H + cn) (by first | exact HMU.out | (simp only [List.length_set]; exact HMU.out)) s0
                          simp only [prx_set2 HMU.out, prx_same HMU.out, List.set_set, HPX.out] at s1
                          refine ⟨jj + 1, by omega, by go_num, ?_, s1.2.1, s1.2.2, (by first | exact .inl HPS.out | simp)⟩
                          rw [HCS.out, HUP.out, HQ.out]
                          exact s1.1
                        case measure => simp [intOf]; omega
                      · have d1 : decide (L + cn < p0) = false := decide_eq_false (by have := HPL.out; have := HPH.out; omega)
                        have d2 : decide (p0 < -1000000) = false := decide_eq_false (by have := HPL.out; have := HPH.out; omega)
                        have d3 : decide (p1 < H + cn) = true := decide_eq_true (by have := HPL.out; have := HPH.out; omega)
                        have d4 : decide (1000000 < H + cn) = true := decide_eq_true (by have := HPL.out; have := HPH.out; omega)
                        have HQ := Lib.hid (show up1 (p0, p1) (L + cn) (H + cn) = (p0, 1000000) by have := HPL.out; have := HPH.out; unfold up1; simp only [Prod.mk.injEq]; constructor <;> omega)
                        clear hl hh
                        go_wp2
                        go_roundw
                        case rel =>
                          have s0 := HST0.out _ (HW4.out (nqa + nq))
                          have s1 := HSH.out _ _ (H + cn) (by first | exact HMU.out | (simp only [List.length_set]; exact HMU.out)) s0
                          have s2 := HSH.out _ _ (1000000) (by first | exact HMU.out | (simp only [List.length_set]; exact HMU.out)) s1
                          simp only [prx_set2 HMU.out, prx_same HMU.out, List.set_set, HPX.out] at s2
                          refine ⟨jj + 1, by omega, by go_num, ?_, s2.2.1, s2.2.2, (by first | exact .inl HPS.out | simp)⟩
                          rw [HCS.out, HUP.out, HQ.out]
                          exact s2.1
                        case measure => simp [intOf]; omega
                    · rcases hhi3 with hh | hh | hh
                      · have d1 : decide (L + cn < p0) = true := decide_eq_true (by have := HPL.out; have := HPH.out; omega)
                        have d2 : decide (L + cn < -1000000) = false := decide_eq_false (by have := HPL.out; have := HPH.out; omega)
                        have d3 : decide (p1 < H + cn) = false := decide_eq_false (by have := HPL.out; have := HPH.out; omega)
                        have d4 : decide (1000000 < p1) = false := decide_eq_false (by have := HPL.out; have := HPH.out; omega)
                        have HQ := Lib.hid (show up1 (p0, p1) (L + cn) (H + cn) = (L + cn, p1) by have := HPL.out; have := HPH.out; unfold up1; simp only [Prod.mk.injEq]; constructor <;> omega)
                        clear hl hh
                        go_wp2
                        go_roundw
                        case rel =>
                          have s0 := HST0.out _ (HW4.out (nqa + nq))
                          have s1 := HSL.out _ _ (L + cn) (by first | exact HMU.out | (simp only [List.length_set]; exact HMU.out)) s0
                          simp only [prx_set2 HMU.out, prx_same HMU.out, List.set_set, HPX.out] at s1
                          refine ⟨jj + 1, by omega, by go_num, ?_, s1.2.1, s1.2.2, (by first | exact .inl HPS.out | simp)⟩
                          rw [HCS.out, HUP.out, HQ.out]
                          exact s1.1
                        case measure => simp [intOf]; omega
                      · have d1 : decide (L + cn < p0) = true := decide_eq_true (by have := HPL.out; have := HPH.out; omega)
                        have d2 : decide (L + cn < -1000000) = false := decide_eq_false (by have := HPL.out; have := HPH.out; omega)
                        have d3 : decide (p1 < H + cn) = true := decide_eq_true (by have := HPL.out; have := HPH.out; omega)
                        have d4 : decide (1000000 < H + cn) = false := decide_eq_false (by have := HPL.out; have := HPH.out; omega)
                        have HQ := Lib.hid (show up1 (p0, p1) (L + cn) (H + cn) = (L + cn, H + cn) by have := HPL.out; have := HPH.out; unfold up1; simp only [Prod.mk.injEq]; constructor <;> omega)
                        clear hl hh
                        go_wp2
                        go_roundw
                        case rel =>
                          have s0 := HST0.out _ (HW4.out (nqa + nq))
                          have s1 := HSL.out _ _ (L + cn) (by first | exact HMU.out | (simp only [List.length_set]; exact HMU.out)) s0
                          have s2 := HSH.out _ _ (H + cn) (by first | exact HMU.out | (simp only [List.length_set]; exact HMU.out)) s1
                          simp only [prx_set2 HMU.out, prx_same HMU.out, List.set_set, HPX.out] at s2
                          refine ⟨jj + 1, by omega, by go_num, ?_, s2.2.1, s2.2.2, (by first | exact .inl HPS.out | simp)⟩
                          rw [HCS.out, HUP.out, HQ.out]
                          exact s2.1
                        case measure => simp [intOf]; omega
                      · have d1 : decide (L + cn < p0) = true := decide_eq_true (by have := HPL.out; have := HPH.out; omega)
                        have d2 : decide (L + cn < -1000000) = false := decide_eq_false (by have := HPL.out; have := HPH.out; omega)
                        have d3 : decide (p1 < H + cn) = true := decide_eq_true (by have := HPL.out; have := HPH.out; omega)
                        have d4 : decide (1000000 < H + cn) = true := decide_eq_true (by have := HPL.out; have := HPH.out; omega)
                        have HQ := Lib.hid (show up1 (p0, p1) (L + cn) (H + cn) = (L + cn, 1000000) by have := HPL.out; have := HPH.out; unfold up1; simp only [Prod.mk.injEq]; constructor <;> omega)
                        clear hl hh
                        go_wp2
                        go_roundw
                        case rel =>
                          have s0 := HST0.out _ (HW4.out (nqa + nq))
                          have s1 := HSL.out _ _ (L + cn) (by first | exact HMU.out | (simp only [List.length_set]; exact HMU.out)) s0
                          have s2 := HSH.out _ _ (H + cn) (by first | exact HMU.out | (simp only [List.length_set]; exact HMU.out)) s1
                          have s3 := HSH.out _ _ (1000000) (by first | exact HMU.out | (simp only [List.length_set]; exact HMU.out)) s2
                          simp only [prx_set2 HMU.out, prx_same HMU.out, List.set_set, HPX.out] at s3
                          refine ⟨jj + 1, by omega, by go_num, ?_, s3.2.1, s3.2.2, (by first | exact .inl HPS.out | simp)⟩
                          rw [HCS.out, HUP.out, HQ.out]
                          exact s3.1
                        case measure => simp [intOf]; omega
                    · rcases hhi3 with hh | hh | hh
                      · have d1 : decide (L + cn < p0) = true := decide_eq_true (by have := HPL.out; have := HPH.out; omega)
                        have d2 : decide (L + cn < -1000000) = true := decide_eq_true (by have := HPL.out; have := HPH.out; omega)
                        have d3 : decide (p1 < H + cn) = false := decide_eq_false (by have := HPL.out; have := HPH.out; omega)
                        have d4 : decide (1000000 < p1) = false := decide_eq_false (by have := HPL.out; have := HPH.out; omega)
                        have HQ := Lib.hid (show up1 (p0, p1) (L + cn) (H + cn) = (-1000000, p1) by have := HPL.out; have := HPH.out; unfold up1; simp only [Prod.mk.injEq]; constructor <;> omega)
                        clear hl hh
                        go_wp2
                        go_roundw
                        case rel =>
                          have s0 := HST0.out _ (HW4.out (nqa + nq))
                          have s1 := HSL.out _ _ (L + cn) (by first | exact HMU.out | (simp only [List.length_set]; exact HMU.out)) s0
                          have s2 := HSL.out _ _ (-1000000) (by first | exact HMU.out | (simp only [List.length_set]; exact HMU.out)) s1
                          simp only [prx_set2 HMU.out, prx_same HMU.out, List.set_set, HPX.out] at s2
                          refine ⟨jj + 1, by omega, by go_num, ?_, s2.2.1, s2.2.2, (by first | exact .inl HPS.out | simp)⟩
                          rw [HCS.out, HUP.out, HQ.out]
                          exact s2.1
                        case measure => simp [intOf]; omega
                      · have d1 : decide (L + cn < p0) = true := decide_eq_true (by have := HPL.out; have := HPH.out; omega)
                        have d2 : decide (L + cn < -1000000) = true := decide_eq_true (by have := HPL.out; have := HPH.out; omega)
                        have d3 : decide (p1 < H + cn) = true := decide_eq_true (by have := HPL.out; have := HPH.out; omega)
                        have d4 : decide (1000000 < H + cn) = false := decide_eq_false (by have := HPL.out; have := HPH.out; omega)
                        have HQ := Lib.hid (show up1 (p0, p1) (L + cn) (H + cn) = (-1000000, H + cn) by have := HPL.out; have := HPH.out; unfold up1; simp only [Prod.mk.injEq]; constructor <;> omega)
                        clear hl hh
                        go_wp2
                        go_roundw
                        case rel =>
                          have s0 := HST0.out _ (HW4.out (nqa + nq))
                          have s1 := HSL.out _ _ (L + cn) (by first | exact HMU.out | (simp only [List.length_set]; exact HMU.out)) s0
                          have s2 := HSL.out _ _ (-1000000) (by first | exact HMU.out | (simp only [List.length_set]; exact HMU.out)) s1
                          have s3 := HSH.out _ _ (H + cn) (by first | exact HMU.out | (simp only [List.length_set]; exact HMU.out)) s2
                          simp only [prx_set2 HMU.out, prx_same HMU.out, List.set_set, HPX.out] at s3
                          refine ⟨jj + 1, by omega, by go_num, ?_, s3.2.1, s3.2.2, (by first | exact .inl HPS.out | simp)⟩
                          rw [HCS.out, HUP.out, HQ.out]
                          exact s3.1
                        case measure => simp [intOf]; omega
                      · have d1 : decide (L + cn < p0) = true := decide_eq_true (by have := HPL.out; have := HPH.out; omega)
                        have d2 : decide (L + cn < -1000000) = true := decide_eq_true (by have := HPL.out; have := HPH.out; omega)
                        have d3 : decide (p1 < H + cn) = true := decide_eq_true (by have := HPL.out; have := HPH.out; omega)
                        have d4 : decide (1000000 < H + cn) = true := decide_eq_true (by have := HPL.out; have := HPH.out; omega)
                        have HQ := Lib.hid (show up1 (p0, p1) (L + cn) (H + cn) = (-1000000, 1000000) by have := HPL.out; have := HPH.out; unfold up1; simp only [Prod.mk.injEq]; constructor <;> omega)
                        clear hl hh
                        go_wp2
                        go_roundw
                        case rel =>
                          have s0 := HST0.out _ (HW4.out (nqa + nq))
                          have s1 := HSL.out _ _ (L + cn) (by first | exact HMU.out | (simp only [List.length_set]; exact HMU.out)) s0
                          have s2 := HSL.out _ _ (-1000000) (by first | exact HMU.out | (simp only [List.length_set]; exact HMU.out)) s1
                          have s3 := HSH.out _ _ (H + cn) (by first | exact HMU.out | (simp only [List.length_set]; exact HMU.out)) s2
                          have s4 := HSH.out _ _ (1000000) (by first | exact HMU.out | (simp only [List.length_set]; exact HMU.out)) s3
                          simp only [prx_set2 HMU.out, prx_same HMU.out, List.set_set, HPX.out] at s4
                          refine ⟨jj + 1, by omega, by go_num, ?_, s4.2.1, s4.2.2, (by first | exact .inl HPS.out | simp)⟩
                          rw [HCS.out, HUP.out, HQ.out]
                          exact s4.1
                        case measure => simp [intOf]; omega
end Go.Proofs.Ytiafplmaigpmeaa
