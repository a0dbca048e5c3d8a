/- Apply of package numeric. -/
import Derived.Test.YtiafplmaigpmeaaNzf
namespace Go.Proofs.Ytiafplmaigpmeaa
open Go.RowKit
set_option linter.unusedSimpArgs false
set_option linter.unusedVariables false
set_option maxRecDepth 100000

theorem sp_one (m : Nat) (op : Int) : spF m [op] = if inB op 0 ((m : Int) - 1) then (0, 0) else (3, -6) := by
  unfold spF planB
  rw [if_neg (by simp)]
  have : (List.range [op].length).all (stB m [op]) = inB op 0 ((m : Int) - 1) := by
    show (List.range 1).all (stB m [op]) = _
    rw [show List.range 1 = [0] from rfl]
    simp only [List.all_cons, List.all_nil, Bool.and_true]
    rw [← stB_in]
    rfl
  rw [this]
theorem own_far2 {W : World} {base : Nat} {e : TypeId} {size : Nat} {v : Value} {n : Nat} {xs : List Value} (h : W.ownsRow base e size v n xs) {p : Addr} (hp : p.block < base) (u : Value) : (W.setCell p u).ownsRow base e size v n xs := by
  refine h.kept (set_grown W p u) ?_
  cases hv : v.ownBlock with
  | none => exact .inl rfl
  | some q => exact .inr (fun e => by have := (h.lt q hv).1; cases e; omega)
theorem okv {n : Nat} {v : List Int} (h : okL 1000000 n v = true) : VOk n v := ⟨(okL_iff.1 h).1, (okL_iff.1 h).2⟩
theorem lst_new1 (w : World) (op : Int) : Lst (w.alloc (.cells #[.int .i64 op] 3)) (w.alloc (.cells #[.int .i64 op] 3)).heap.size (some ⟨w.heap.size, 0, none⟩) 1 [op] := lst_one (by simp) (by simp)
set_option maxHeartbeats 4000000 in
theorem napply_any : NaC := by
  intro x a c v op w hX hV hz
  have HF0 := Lib.hid (frN_new w x 26 28)
  have hVA := nvalidate_any x _ (hX.to HF0.out.below HF0.out.below.size)
  have HX00 := Lib.hid hX
  have HV0 := Lib.hid (fun (W : World) (h : Below w.heap.size w W) => hV.to h h.size)
  have hmo := Nat.le_trans hX.ops.le hX.ops.max
  clear hX hV
  by_cases hn : (nfF x).1 = 0
  case neg =>
    have H1 := Lib.hid (show napF x v op = nfF x by unfold napF; rw [if_pos hn])
    have H2 := Lib.hid (show napL x v op = [] by unfold napL; rw [H1.out, if_neg hn])
    have HVA := Lib.hid hVA
    have hne : ((nfF x).1 != 0) = true := by simpa using hn
    have hne2 : ((nfF x).1 == 0) = false := by simpa using hn
    clear hn hVA
    go_enter Try.func18, Try.ntmps18
    go_wp2_with (go_at_call 10; (with_reducible refine HVA.out.mono ?_); rintro e w1 ⟨rfl, hb1⟩; have HF1 := Lib.hid ((HF0.out.to hb1).alloc (.cells #[.int .i64 (nfF x).1, .int .i64 (nfF x).2] 28)); obtain ⟨_, ⟨_, s0, s1, s2⟩, ⟨_, k0, k1, f0, f1⟩⟩ := HF1.out; clear hb1)
    go_region
    all_goals
      go_wp2
      refine post_with_fault (g := w.heap.size + 1) (x := .int .i64 (nfF x).1) (y := .int .i64 (nfF x).2) Try.results18 rfl (two1 (HF1.out.two.set _ _)) ?_
      rw [H1.out, H2.out]
      exact ⟨_, rfl, World.ownsRow_nil _ _ _ _, ((HF1.out.below.setCell (by simp) _).setCell (by simp) _).drew⟩
  obtain ⟨hNV, hn0⟩ := nf_val hn
  rw [hn0] at hVA
  have HVA := Lib.hid hVA
  have HNV := Lib.hid hNV
  clear hVA hn hNV
  have hF := show napF x v op = if okL 1000000 x.init.length v = false then (5, -4) else if inB op 0 ((x.ops.length : Int) - 1) = false then (3, -6)
      else if (naf (nop x.ops op.toNat) v).2 ≠ 0 then ((naf (nop x.ops op.toNat) v).2, op) else (0, 0) by unfold napF; rw [hn0]; rfl
  clear hn0
  cases hv : okL 1000000 x.init.length v
  · rw [if_pos hv] at hF
    have H1 := Lib.hid hF
    have H2 := Lib.hid (show napL x v op = [] by unfold napL; rw [H1.out]; rfl)
    clear hF
    go_enter Try.func18, Try.ntmps18
    go_wp2_with (first | (go_at_call 10; (with_reducible refine HVA.out.mono ?_); rintro e w1 ⟨rfl, hb1⟩; have HF1 := Lib.hid ((HF0.out.to hb1).alloc (.cells #[.int .i64 0, .int .i64 0] 28)); obtain ⟨_, ⟨_, s0, s1, s2⟩, ⟨_, k0, k1, f0, f1⟩⟩ := HF1.out; clear hb1) | (go_at_call 27; (with_reducible refine (isList_any a c v x.init.length 1000000 (by omega) (by omega) _ (HV0.out _ HF1.out.below)).mono ?_); rintro e w2 ⟨rfl, hb2⟩; have HF2 := Lib.hid (HF1.out.to hb2); obtain ⟨_, ⟨_, t0, t1, t2⟩, ⟨_, l0, l1, g0, g1⟩⟩ := HF2.out; clear hb2))
    refine post_with_fault (g := w.heap.size + 1) (x := .int .i64 5) (y := .int .i64 (-4)) Try.results18 rfl (HF2.out.two.set _ _) ?_
    rw [H1.out, H2.out]
    exact ⟨_, rfl, World.ownsRow_nil _ _ _ _, (HF2.out.below.setCell (by simp) _).setCell (by simp) _⟩
  rw [if_neg (by rw [hv]; simp)] at hF
  have HVV := Lib.hid (okv hv)
  have HPF := Lib.hid (fun (b : Nat) (W : World) (h : Lst W W.heap.size (some ⟨b, 0, none⟩) 1 [op]) => show Calls Try.prog 30 #[.int .i64 x.ops.length, .slice (some ⟨b, 0, none⟩) 1 1] W fun e w' => e = .returned (faultV (spF x.ops.length [op])) ∧ Below W.heap.size W w' from planFault_any x.ops.length hmo _ 1 [op] W h)
  rw [sp_one] at HPF
  have hml := hmo
  unfold maxLen at hml
  cases ho : inB op 0 ((x.ops.length : Int) - 1)
  · rw [if_pos ho] at hF
    rw [ho] at HPF
    have H1 := Lib.hid hF
    have H2 := Lib.hid (show napL x v op = [] by unfold napL; rw [H1.out]; rfl)
    clear hF ho
    go_enter Try.func18, Try.ntmps18
    go_wp2_with (first | (go_at_call 10; (with_reducible refine HVA.out.mono ?_); rintro e w1 ⟨rfl, hb1⟩; have HF1 := Lib.hid ((HF0.out.to hb1).alloc (.cells #[.int .i64 0, .int .i64 0] 28)); obtain ⟨_, ⟨_, s0, s1, s2⟩, ⟨_, k0, k1, f0, f1⟩⟩ := HF1.out; clear hb1) | (go_at_call 27; (with_reducible refine (isList_any a c v x.init.length 1000000 (by omega) (by omega) _ (HV0.out _ HF1.out.below)).mono ?_); rintro e w2 ⟨rfl, hb2⟩; have HF2 := Lib.hid (HF1.out.to hb2); obtain ⟨_, ⟨_, t0, t1, t2⟩, ⟨_, l0, l1, g0, g1⟩⟩ := HF2.out; clear hb2) | (go_at_call 30; go_loud ((skip; (with_reducible refine (HPF.out _ _ (lst_new1 w2 op)).mono ?_); rintro e w3 ⟨rfl, hb3⟩; have HF3 := Lib.hid (((HF2.out.alloc (.cells #[.int .i64 op] 3)).to hb3).alloc (.cells #[.int .i64 3, .int .i64 (-6)] 28)); obtain ⟨_, ⟨_, u0, u1, u2⟩, ⟨_, m0, m1, h0, h1⟩⟩ := HF3.out; clear hb3))))
    go_region
    all_goals
      go_wp2
      refine post_with_fault (g := w.heap.size + 1) (x := .int .i64 3) (y := .int .i64 (-6)) Try.results18 rfl (two1 (HF3.out.two.set _ _)) ?_
      rw [H1.out, H2.out]
      exact ⟨_, rfl, World.ownsRow_nil _ _ _ _, ((HF3.out.below.setCell (by simp) _).setCell (by simp) _).drew⟩
  rw [if_neg (by rw [ho]; simp)] at hF
  rw [ho] at HPF
  obtain ⟨g0, g1⟩ := inB_iff.1 ho
  clear ho
  obtain ⟨k, rfl⟩ := Int.eq_ofNat_of_zero_le g0
  have hlt : k < x.ops.length := by omega
  rw [Int.toNat_natCast] at hF
  obtain ⟨b, p, a1, a2, c1, c2, hao, hbl, hq0, hpre0, hch0⟩ := HX00.out.ops.at_ hlt
  have HQ := Lib.hid (fun (W : World) (h : Below w.heap.size w W) => hq0.to h hbl)
  have HPR := Lib.hid (fun (W : World) (h : Below w.heap.size w W) => hpre0.to h h.size)
  have HCH := Lib.hid (fun (W : World) (h : Below w.heap.size w W) => hch0.to h h.size)
  have HOK := Lib.hid (HNV.out.ops k hlt)
  have h1 := HNV.out.n1
  have h8 := HNV.out.n8
  have hL : napL x v k = if (napF x v k).1 = 0 then (naf (nop x.ops k) v).1 else [] := by unfold napL; rw [Int.toNat_natCast]
  have HAO := Lib.hid hao
  clear hq0 hpre0 hch0 HX00 hao
  generalize nop x.ops k = o at *
  have HAF := Lib.hid (fun (W : World) (h : Below w.heap.size w W) => after_any x.init.length h1 h8 o HOK.out v HVV.out a1 a2 a c1 c2 c W (HPR.out W h) (HCH.out W h) (HV0.out W h))
  generalize hr : naf o v = r at *
  obtain ⟨rl, rc⟩ := r
  simp only at hF hL
  by_cases hc : rc = 0
  · subst hc
    rw [if_neg (by simp)] at hF
    rw [hF, if_pos rfl] at hL
    have H1 := Lib.hid hF
    have H2 := Lib.hid hL
    clear hF hL hr
    go_enter Try.func18, Try.ntmps18
    go_wp2_with (first | (go_at_call 10; (with_reducible refine HVA.out.mono ?_); rintro e w1 ⟨rfl, hb1⟩; have HF1 := Lib.hid ((HF0.out.to hb1).alloc (.cells #[.int .i64 0, .int .i64 0] 28)); obtain ⟨_, ⟨_, s0, s1, s2⟩, ⟨_, k0, k1, f0, f1⟩⟩ := HF1.out; clear hb1) | (go_at_call 27; (with_reducible refine (isList_any a c v x.init.length 1000000 (by omega) (by omega) _ (HV0.out _ HF1.out.below)).mono ?_); rintro e w2 ⟨rfl, hb2⟩; have HF2 := Lib.hid (HF1.out.to hb2); obtain ⟨_, ⟨_, t0, t1, t2⟩, ⟨_, l0, l1, g0, g1⟩⟩ := HF2.out; clear hb2) | (go_at_call 30; go_loud ((skip; (with_reducible refine (HPF.out _ _ (lst_new1 w2 (k : Int))).mono ?_); rintro e w3 ⟨rfl, hb3⟩; have HF3 := Lib.hid (((HF2.out.alloc (.cells #[.int .i64 (k : Int)] 3)).to hb3).alloc (.cells #[.int .i64 0, .int .i64 0] 28)); obtain ⟨_, ⟨_, u0, u1, u2⟩, ⟨_, m0, m1, h0, h1⟩⟩ := HF3.out; rw [HAO.out] at u2; obtain ⟨q0, q1, q2⟩ := HQ.out _ HF3.out.below; clear hb3))) | (go_at_call 31; go_loud ((skip; (with_reducible refine (HAF.out _ HF3.out.below).mono ?_); rintro e w4 ⟨vv, rfl, ho4, hb4⟩; have HO4 := Lib.hid ho4; have HF4 := Lib.hid (HF3.out.to hb4); obtain ⟨_, ⟨_, x0, x1, x2⟩, ⟨_, y0, y1, z0, z1⟩⟩ := HF4.out; clear ho4 hb4))))
    refine post_with_fault (g := w.heap.size + 1) (x := .int .i64 0) (y := .int .i64 0) Try.results18 rfl (HF4.out.two.set _ _) ?_
    rw [H1.out, H2.out]
    exact ⟨_, rfl, own_mono (own_far2 (own_far2 HO4.out (p := ⟨w.heap.size + 1, 0, none⟩) HF3.out.two.lt (.int .i64 0)) (p := ⟨w.heap.size + 1, 1, none⟩) HF3.out.two.lt (.int .i64 0)) HF3.out.below.size, (HF4.out.below.setCell (by simp) _).setCell (by simp) _⟩
  · rw [if_pos hc] at hF
    rw [hF, if_neg hc] at hL
    have H1 := Lib.hid hF
    have H2 := Lib.hid hL
    have hne : (rc != 0) = true := by simpa using hc
    clear hF hL hr hc
    go_enter Try.func18, Try.ntmps18
    go_wp2_with (first | (go_at_call 10; (with_reducible refine HVA.out.mono ?_); rintro e w1 ⟨rfl, hb1⟩; have HF1 := Lib.hid ((HF0.out.to hb1).alloc (.cells #[.int .i64 0, .int .i64 0] 28)); obtain ⟨_, ⟨_, s0, s1, s2⟩, ⟨_, k0, k1, f0, f1⟩⟩ := HF1.out; clear hb1) | (go_at_call 27; (with_reducible refine (isList_any a c v x.init.length 1000000 (by omega) (by omega) _ (HV0.out _ HF1.out.below)).mono ?_); rintro e w2 ⟨rfl, hb2⟩; have HF2 := Lib.hid (HF1.out.to hb2); obtain ⟨_, ⟨_, t0, t1, t2⟩, ⟨_, l0, l1, g0, g1⟩⟩ := HF2.out; clear hb2) | (go_at_call 30; go_loud ((skip; (with_reducible refine (HPF.out _ _ (lst_new1 w2 (k : Int))).mono ?_); rintro e w3 ⟨rfl, hb3⟩; have HF3 := Lib.hid (((HF2.out.alloc (.cells #[.int .i64 (k : Int)] 3)).to hb3).alloc (.cells #[.int .i64 0, .int .i64 0] 28)); obtain ⟨_, ⟨_, u0, u1, u2⟩, ⟨_, m0, m1, h0, h1⟩⟩ := HF3.out; rw [HAO.out] at u2; obtain ⟨q0, q1, q2⟩ := HQ.out _ HF3.out.below; clear hb3))) | (go_at_call 31; go_loud ((skip; (with_reducible refine (HAF.out _ HF3.out.below).mono ?_); rintro e w4 ⟨vv, rfl, ho4, hb4⟩; have HO4 := Lib.hid ho4; have HF4 := Lib.hid (HF3.out.to hb4); obtain ⟨_, ⟨_, x0, x1, x2⟩, ⟨_, y0, y1, z0, z1⟩⟩ := HF4.out; clear ho4 hb4))))
    refine post_with_fault (g := w.heap.size + 1) (x := .int .i64 rc) (y := .int .i64 k) Try.results18 rfl (HF4.out.two.set _ _) ?_
    rw [H1.out, H2.out]
    exact ⟨_, rfl, World.ownsRow_nil _ _ _ _, (HF4.out.below.setCell (by simp) _).setCell (by simp) _⟩
end Go.Proofs.Ytiafplmaigpmeaa
