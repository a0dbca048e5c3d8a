/- The law NumericSums: the rest of the walk. -/
import Derived.Test.YtiafplmaigpmeaaNl6
import Derived.Test.YtiafplmaigpmeaaNzd
namespace Go.Proofs.Ytiafplmaigpmeaa
open Go.RowKit
set_option linter.unusedSimpArgs false
set_option linter.unusedVariables false
set_option maxRecDepth 100000

theorem cI_at {W : World} {base g cap n : Nat} {l : List Int} (h : W.ownsRow base 3 1 (.slice (some ⟨g, 0, none⟩) n cap) n (l.map (Value.int .i64))) {X : Nat} (hX : X < l.length) : W.cell? ⟨g, X, none⟩ = some (.int .i64 (ix l X)) := by
  have hl : l.length = n := by simpa using h.1
  rw [h.cellAt X (by omega)]
  simp [ix, List.getD, hX]
theorem su_c {v l : List Int} {X c bl ol q : Nat} {n op : Int} {W : World} {f : Int × Int} (h : NTIn W W.heap.size (suT v X n (some ⟨bl, ol, none⟩) (some ⟨q, 0, none⟩) c 2)) (h2 : Lst W W.heap.size (some ⟨bl, ol, none⟩) c v) (e1 : napF (suT v X n (some ⟨bl, ol, none⟩) (some ⟨q, 0, none⟩) c 2) v op = f) (e2 : napL (suT v X n (some ⟨bl, ol, none⟩) (some ⟨q, 0, none⟩) c 2) v op = l) :
    Calls Try.prog 18 #[.agg #[.slice (some ⟨bl, ol, none⟩) v.length c, .slice none 0 0, .slice (some ⟨q, 0, none⟩) 2 2], .slice (some ⟨bl, ol, none⟩) v.length c, .int .i64 op] W (LsF W f l) := by
  have h3 := su_call (x := (suT v X n (some ⟨bl, ol, none⟩) (some ⟨q, 0, none⟩) c 2)) (napply_any (suT v X n (some ⟨bl, ol, none⟩) (some ⟨q, 0, none⟩) c 2) (some ⟨bl, ol, none⟩) c v op W h h2 (fun h => by cases h)) e1 e2
  exact h3
set_option maxHeartbeats 1000000 in
theorem sums_in (hNv : NvC) (hNa : NaC) (hNs : NsC) (hNb : NbC) (a : Option Addr) (c : Nat) (v : List Int) (hz : a = none → c = 0) (X : Nat) (n : Int) (w : World) (hL : Lst w w.heap.size a c v)
    (h1 : inB (v.length : Int) 1 8 = true) (h2 : inB (X : Int) 0 ((v.length : Int) - 1) = true) (h3 : inB n (-1000) 1000 = true) (h4 : okL 1000000 v.length v = true) :
    Calls Try.prog 7 #[.slice a v.length c, .int .i64 X, .int .i64 n] w fun e w' => e = .returned (.bool true) ∧ Below w.heap.size w w' := by
  obtain ⟨g1, g8⟩ := inB_iff.1 h1
  obtain ⟨_, gX⟩ := inB_iff.1 h2
  obtain ⟨bl, ol, rfl, hbl, hcl⟩ := hL.nums.at_ (k := X) (by omega)
  have HCL := Lib.hid (fun (V : World) (h : Below w.heap.size w V) => (h.cell (p := ⟨bl, ol + X, none⟩) hbl).trans hcl)
  clear hz hbl hcl
  have HL0 := Lib.hid (fun (W : World) (h : Below w.heap.size w W) => hL.to h h.size)
  have HVO := Lib.hid (fun (W : World) (h2 : Lst W W.heap.size (some ⟨bl, ol, none⟩) c v) => valuesOk_any v.length (some ⟨bl, ol, none⟩) c v W h2)
  rw [h4] at HVO
  have hwl : IntKind.i64.wrap ((v.length : Int) - 1) = (v.length : Int) - 1 := IntWalk.i64_in _ (by omega)
  obtain ⟨i0, hi0, hz0, hz1, hz2⟩ := info_parts info_int
  have H4 := Lib.hid h4
  clear hL h4
  go_enter Try.func7, Try.ntmps7
  go_wp2_with (first | (go_at_call 9; (with_reducible refine (counts_any hNv hNa hNs hNb _).mono ?_); rintro e wC ⟨rfl, hb⟩; have hBc := Lib.hid hb; clear hb) | (go_at_call 16; refine (in_any _ _ _ _).mono ?_; rintro e w' ⟨rfl, rfl⟩) | (go_at_call 14; (with_reducible refine (HVO.out _ (HL0.out _ hBc.out)).mono ?_); rintro e w7 ⟨rfl, rfl⟩) | (at_make; refine wpList_make_full _ rfl _ _ 22 rfl wC.heap.size 3 i0 (.int .i64 0) 1 Try.underlying22 hi0 hz0 hz1 .i64 .i64 (v.length : Int) (v.length : Int) v.length rfl rfl rfl rfl (by rw [hz2]; omega) (by unfold maxLen; omega) (Nat.le_refl _) ?_))
  intro w1 hown hgr
  rw [made_zero] at hown
  have HO1 := Lib.hid hown
  have hB1 : Below wC.heap.size wC w1 := (Below.refl _ _).grown hgr (Nat.le_refl _) (fun q hq => by cases hq)
  have HB1 := Lib.hid (hBc.out.trans (hB1.mono hBc.out.size))
  have hXn : X < v.length := by omega
  have k0 : w1.cell? ⟨wC.heap.size, X, none⟩ = some (.int .i64 0) := (hown.cellAt X (by omega)).trans (by simp [hXn])
  have f0 := hown.frozenAt X
  have hXl : (X : Int) < (v.length : Int) := by omega
  have hgw : wC.heap.size < w1.heap.size := (hown.lt _ rfl).2
  have hB5 : Below w.heap.size w ((((w1.setCell ⟨wC.heap.size, X, none⟩ (.int .i64 1)).alloc (.cells #[.int .i64 X, .slice (some ⟨wC.heap.size, 0, none⟩) v.length v.length, .int .i64 n] 55)).alloc (.cells #[.slice none 0 0, .slice none 0 0, .int .i64 0, .slice none 0 0, .slice (some ⟨w1.heap.size, 0, none⟩) 1 1, .int .i64 0] 53)).alloc (.cells #[.slice (some ⟨bl, ol, none⟩) v.length c, .slice none 0 0, .slice (some ⟨w1.heap.size + 1, 0, none⟩) 2 2] 26)) := ((((HB1.out.setCell (by have := hBc.out.size; simp; omega) _).alloc (by have := HB1.out.size; simp; omega) _).alloc (by have := HB1.out.size; simp; omega) _).alloc (by have := HB1.out.size; simp; omega) _)
  have HB5 := Lib.hid hB5
  have HIN := Lib.hid (su_in (n := n) hXn hown (HL0.out _ hB5))
  have HL5 := Lib.hid (HL0.out _ hB5)
  clear hown hgr hB1 hB5
  have HTB := Lib.hid (show Tri ((((w1.setCell ⟨wC.heap.size, X, none⟩ (.int .i64 1)).alloc (.cells #[.int .i64 X, .slice (some ⟨wC.heap.size, 0, none⟩) v.length v.length, .int .i64 n] 55)).alloc (.cells #[.slice none 0 0, .slice none 0 0, .int .i64 0, .slice none 0 0, .slice (some ⟨w1.heap.size, 0, none⟩) 1 1, .int .i64 0] 53)).alloc (.cells #[.slice (some ⟨bl, ol, none⟩) v.length c, .slice none 0 0, .slice (some ⟨w1.heap.size + 1, 0, none⟩) 2 2] 26)) (w1.heap.size + 1 + 1) (.slice (some ⟨bl, ol, none⟩) v.length c) (.slice none 0 0) (.slice (some ⟨w1.heap.size + 1, 0, none⟩) 2 2) by have := tri_new ((w1.setCell ⟨wC.heap.size, X, none⟩ (.int .i64 1)).alloc (.cells #[.int .i64 X, .slice (some ⟨wC.heap.size, 0, none⟩) v.length v.length, .int .i64 n] 55) |>.alloc (.cells #[.slice none 0 0, .slice none 0 0, .int .i64 0, .slice none 0 0, .slice (some ⟨w1.heap.size, 0, none⟩) 1 1, .int .i64 0] 53)) (.slice (some ⟨bl, ol, none⟩) v.length c) (.slice none 0 0) (.slice (some ⟨w1.heap.size + 1, 0, none⟩) 2 2) 26; rw [World.size_alloc, World.size_alloc] at this; simpa using this)
  go_upto_region 8 with fail
  have hvX : IntKind.i64.wrap (ix v X + n) = ix v X + n := IntWalk.i64_in _ (by have := (okL_iff.1 H4.out).2 X hXn; have := inB_iff.1 h3; omega)
  have hS0 := su_0 (ai := some ⟨bl, ol, none⟩) (ao := some ⟨w1.heap.size + 1, 0, none⟩) (ci := c) (co := 2) (by omega) (by omega) H4.out hXn h3
  have hS1 := su_1 (ai := some ⟨bl, ol, none⟩) (ao := some ⟨w1.heap.size + 1, 0, none⟩) (ci := c) (co := 2) (by omega) (by omega) H4.out hXn h3
  generalize hW : ((((w1.setCell ⟨wC.heap.size, X, none⟩ (.int .i64 1)).alloc (.cells #[.int .i64 X, .slice (some ⟨wC.heap.size, 0, none⟩) v.length v.length, .int .i64 n] 55)).alloc (.cells #[.slice none 0 0, .slice none 0 0, .int .i64 0, .slice none 0 0, .slice (some ⟨w1.heap.size, 0, none⟩) 1 1, .int .i64 0] 53)).alloc (.cells #[.slice (some ⟨bl, ol, none⟩) v.length c, .slice none 0 0, .slice (some ⟨w1.heap.size + 1, 0, none⟩) 2 2] 26)) = W at HB5 HIN HL5 HTB ⊢
  generalize w1.heap.size + 1 = q at HIN HTB hS0 hS1 ⊢
  have HW := Lib.hid hW
  clear hW k0 f0 HO1 HB1
  obtain ⟨_, a0, a1, a2⟩ := HTB.out
  have HA0 := Lib.hid (fun (W : World) (h : NTIn W W.heap.size (suT v X n (some ⟨bl, ol, none⟩) (some ⟨q, 0, none⟩) c 2)) (h2 : Lst W W.heap.size (some ⟨bl, ol, none⟩) c v) => su_c h h2 hS0.1 hS0.2)
  cases hi : inB (ix v X + n) (-1000000) 1000000
  case false =>
    rw [hi] at hS1
    have HA1 := Lib.hid (fun (W : World) (h : NTIn W W.heap.size (suT v X n (some ⟨bl, ol, none⟩) (some ⟨q, 0, none⟩) c 2)) (h2 : Lst W W.heap.size (some ⟨bl, ol, none⟩) c v) => su_c h h2 hS1.1 hS1.2)
    clear hS0 hS1
    go_upto_region 13 with (first | (go_at_call 18; (with_reducible refine (HA0.out _ HIN.out HL5.out).mono ?_); rintro e wA ⟨vA, rfl, ho, hb⟩; have hb6 : Below W.heap.size W (wA.alloc (.cells #[.int .i64 0, .int .i64 0] 28)) := b1a (Nat.le_refl _) hb _; have HB6 := Lib.hid (HB5.out.trans (hb6.mono HB5.out.size)); have HIN6 := Lib.hid (HIN.out.to hb6 hb6.size); have HL6 := Lib.hid (HL5.out.to hb6 hb6.size); have HTB6 := Lib.hid (HTB.out.to hb6); have HOA := Lib.hid (ho.alloc (.cells #[.int .i64 0, .int .i64 0] 28)); have HTF := Lib.hid (two_new wA (.int .i64 0) (.int .i64 0) 28); obtain ⟨_, b0, b1, b2⟩ := HTB6.out; clear ho hb hb6) | (go_at_call 18; (with_reducible refine (HA1.out _ HIN6.out HL6.out).mono ?_); rintro e wD ⟨vD, rfl, ho, hb⟩; have hb6 : Below (wA.alloc (.cells #[.int .i64 0, .int .i64 0] 28)).heap.size (wA.alloc (.cells #[.int .i64 0, .int .i64 0] 28)) (wD.alloc (.cells #[.int .i64 10, .int .i64 1] 28)) := b1a (Nat.le_refl _) hb _; have HB7 := Lib.hid (HB6.out.trans (hb6.mono HB6.out.size)); have HL7 := Lib.hid (HL6.out.to hb6 hb6.size); have HOA7 := Lib.hid (own_to HOA.out hb6); have HOD := Lib.hid (ho.alloc (.cells #[.int .i64 10, .int .i64 1] 28)); have HTF7 := Lib.hid (two_to HTF.out hb6); have HTG := Lib.hid (two_new wD (.int .i64 10) (.int .i64 1) 28); obtain ⟨_, z0, z1, _, _⟩ := HTF7.out; clear ho hb hb6) | (go_at_call 19; (with_reducible refine (in_own HOA7.out HL7.out).mono ?_); rintro e wI ⟨rfl, hb⟩; have HB8 := Lib.hid (HB7.out.trans (hb.mono HB7.out.size)); have HTG8 := Lib.hid (two_to HTG.out hb); have HOD8 := Lib.hid (own_to HOD.out hb); have HL8 := Lib.hid (HL7.out.to hb hb.size); have hcv := HCL.out _ HB8.out; obtain ⟨_, y0, y1, _, _⟩ := HTG8.out; clear hb) | (go_at_call 16; refine (in_any _ _ _ _).mono ?_; rintro e w' ⟨rfl, rfl⟩))
    have HSO := Lib.hid (fun (V : World) (h : Below wI.heap.size wI V) => (⟨(two_to HTG8.out h).fst, (two_to HTG8.out h).snd, h⟩ : V.cell? ⟨wD.heap.size, 0, none⟩ = some (.int .i64 10) ∧ V.cell? ⟨wD.heap.size, 1, none⟩ = some (.int .i64 1) ∧ Below wI.heap.size wI V))
    go_region_held3 (fun V => V.cell? ⟨wD.heap.size, 0, none⟩ = some (.int .i64 10) ∧ V.cell? ⟨wD.heap.size, 1, none⟩ = some (.int .i64 1) ∧ Below wI.heap.size wI V) (first | assumption | (exact ⟨HTG8.out.fst, HTG8.out.snd, (Below.refl _ _).drew⟩) | (exact HSO.out _ (bel_up (And.right (And.right (by assumption))) (by assumption)))) (first | (go_at_call 15; (with_reducible refine (at_any _ _ _).mono ?_); rintro e wE ⟨rfl, hb⟩))
    all_goals
      have hbE : Below wI.heap.size wI wE := And.right (And.right (by assumption))
      have HBE := Lib.hid (HB8.out.trans (hbE.mono HB8.out.size))
      clear hbE
      go_wp2
      go_ret
      exact ⟨rfl, HBE.out⟩
  case true =>
    rw [hi] at hS1
    have HA1 := Lib.hid (fun (W : World) (h : NTIn W W.heap.size (suT v X n (some ⟨bl, ol, none⟩) (some ⟨q, 0, none⟩) c 2)) (h2 : Lst W W.heap.size (some ⟨bl, ol, none⟩) c v) => su_c h h2 hS1.1 hS1.2)
    clear hS0 hS1
    go_upto_region 16 with (first | (go_at_call 18; (with_reducible refine (HA0.out _ HIN.out HL5.out).mono ?_); rintro e wA ⟨vA, rfl, ho, hb⟩; have hb6 : Below W.heap.size W (wA.alloc (.cells #[.int .i64 0, .int .i64 0] 28)) := b1a (Nat.le_refl _) hb _; have HB6 := Lib.hid (HB5.out.trans (hb6.mono HB5.out.size)); have HIN6 := Lib.hid (HIN.out.to hb6 hb6.size); have HL6 := Lib.hid (HL5.out.to hb6 hb6.size); have HTB6 := Lib.hid (HTB.out.to hb6); have HOA := Lib.hid (ho.alloc (.cells #[.int .i64 0, .int .i64 0] 28)); have HTF := Lib.hid (two_new wA (.int .i64 0) (.int .i64 0) 28); obtain ⟨_, b0, b1, b2⟩ := HTB6.out; clear ho hb hb6) | (go_at_call 18; (with_reducible refine (HA1.out _ HIN6.out HL6.out).mono ?_); rintro e wD ⟨vD, rfl, ho, hb⟩; have hb6 : Below (wA.alloc (.cells #[.int .i64 0, .int .i64 0] 28)).heap.size (wA.alloc (.cells #[.int .i64 0, .int .i64 0] 28)) (wD.alloc (.cells #[.int .i64 0, .int .i64 0] 28)) := b1a (Nat.le_refl _) hb _; have HB7 := Lib.hid (HB6.out.trans (hb6.mono HB6.out.size)); have HL7 := Lib.hid (HL6.out.to hb6 hb6.size); have HOA7 := Lib.hid (own_to HOA.out hb6); have HOD := Lib.hid (ho.alloc (.cells #[.int .i64 0, .int .i64 0] 28)); have HTF7 := Lib.hid (two_to HTF.out hb6); have HTG := Lib.hid (two_new wD (.int .i64 0) (.int .i64 0) 28); obtain ⟨_, z0, z1, _, _⟩ := HTF7.out; clear ho hb hb6) | (go_at_call 19; (with_reducible refine (in_own HOA7.out HL7.out).mono ?_); rintro e wI ⟨rfl, hb⟩; have HB8 := Lib.hid (HB7.out.trans (hb.mono HB7.out.size)); have HTG8 := Lib.hid (two_to HTG.out hb); have HOD8 := Lib.hid (own_to HOD.out hb); have HL8 := Lib.hid (HL7.out.to hb hb.size); have hcv := HCL.out _ HB8.out; obtain ⟨_, y0, y1, _, _⟩ := HTG8.out; clear hb) | (go_at_call 16; refine (in_any _ _ _ _).mono ?_; rintro e w' ⟨rfl, rfl⟩) | (go_at_call 23; (with_reducible refine (copy_any (some ⟨bl, ol, none⟩) c v _ HL8.out (fun h => by cases h) (by omega)).mono ?_); rintro e wE ⟨vE, rfl, ho, hb⟩; obtain ⟨g, cap, rfl, hg1, hg2⟩ := own_some1 ho (by omega); have HO9 := Lib.hid ho; have HB9 := Lib.hid (HB8.out.trans (hb.mono HB8.out.size)); have HTG9 := Lib.hid (two_to HTG8.out hb); have HOD9 := Lib.hid (own_to HOD8.out hb); have hcv9 := HCL.out _ HB9.out; have k9 := cI_at ho hXn; have f9 := ho.frozenAt X; have HG9 := Lib.hid hg1; obtain ⟨_, x0, x1, _, _⟩ := HTG9.out; clear ho hb))
    have hl9 : wI.heap.size ≤ g := HG9.out
    have hrow := (HO9.out.stored X (.int .i64 (ix v X + n))).1
    rw [← List.map_set] at hrow
    have hvd : (wE.setCell ⟨g, X, none⟩ (.int .i64 (ix v X + n))).ownsRow (wA.alloc (.cells #[.int .i64 0, .int .i64 0] 28)).heap.size 3 1 vD (v.set X (ix v X + n)).length ((v.set X (ix v X + n)).map (Value.int .i64)) := by
      refine HOD9.out.kept (set_grown wE ⟨g, X, none⟩ _) ?_
      cases hv : vD.ownBlock with
      | none => exact .inl rfl
      | some z => exact .inr (fun e => by have h5 : z < wI.heap.size := (HOD8.out.lt z hv).2; have h6 : z = g := Option.some.inj e; omega)
    have hls : Lst (wE.setCell ⟨g, X, none⟩ (.int .i64 (ix v X + n))) (wE.setCell ⟨g, X, none⟩ (.int .i64 (ix v X + n))).heap.size (some ⟨g, 0, none⟩) cap (v.set X (ix v X + n)) := own_l2 (base := wI.heap.size) (by rw [List.length_set]; exact hrow)
    have hIN := in_own hvd hls
    rw [List.length_set] at hIN
    have HIN1 := Lib.hid hIN
    have HBX := Lib.hid (HB9.out.setCell (p := ⟨g, X, none⟩) (by have := HB8.out.size; show _ ≤ g; omega) (.int .i64 (ix v X + n)))
    have HTX := Lib.hid (HTG9.out.far (p := ⟨g, X, none⟩) (by have := HTG8.out.lt; show g ≠ _; omega) (.int .i64 (ix v X + n)))
    obtain ⟨_, d0, d1, _, _⟩ := HTX.out
    clear hrow hvd hls hIN
    go_wp2_with (go_at_call 19; (with_reducible refine HIN1.out.mono ?_); rintro e wF ⟨rfl, hbF⟩)
    go_ret
    exact ⟨rfl, HBX.out.trans (hbF.mono HBX.out.size)⟩
theorem nsums_any (a : Option Addr) (c : Nat) (v : List Int) (hz : a = none → c = 0) (X n : Int) (w : World) (hL : Lst w w.heap.size a c v) :
    Calls Try.prog 7 #[.slice a v.length c, .int .i64 X, .int .i64 n] w fun e w' => e = .returned (.bool true) ∧ Below w.heap.size w w' := by
  by_cases h1 : inB (v.length : Int) 1 8 = true
  · by_cases h2 : inB X 0 ((v.length : Int) - 1) = true
    · by_cases h3 : inB n (-1000) 1000 = true
      · by_cases h4 : okL 1000000 v.length v = true
        · obtain ⟨k, rfl⟩ := Int.eq_ofNat_of_zero_le (inB_iff.1 h2).1
          exact sums_in nvalidate_any napply_any nsolves_any nbounds_any a c v hz k n w hL h1 h2 h3 h4
        · exact sums_out nvalidate_any napply_any nsolves_any nbounds_any a c v X n w hL (.inr (.inr (.inr (by simpa using h4))))
      · exact sums_out nvalidate_any napply_any nsolves_any nbounds_any a c v X n w hL (.inr (.inr (.inl (by simpa using h3))))
    · exact sums_out nvalidate_any napply_any nsolves_any nbounds_any a c v X n w hL (.inr (.inl (by simpa using h2)))
  · exact sums_out nvalidate_any napply_any nsolves_any nbounds_any a c v X n w hL (.inl (by simpa using h1))
end Go.Proofs.Ytiafplmaigpmeaa
