/- The law NumericBoundsMatchSpec: the walk. -/
import Derived.Test.YtiafplmaigpmeaaNcs
namespace Go.Proofs.Ytiafplmaigpmeaa
open Go.RowKit
set_option linter.unusedSimpArgs false
set_option linter.unusedVariables false
set_option maxRecDepth 100000

/-- The law's task and its wanted fault. -/
structure WN (w W : World) (x : NT) (g : Nat) (u v : Int) : Prop where
  below : Below w.heap.size w W
  box : NBox W w.heap.size x
  gt : w.heap.size < g
  two : Two W g (.int .i64 u) (.int .i64 v)
theorem WN.to {w W W' : World} {x : NT} {g : Nat} {u v : Int} (h : WN w W x g u v) (hb : Below W.heap.size W W') : WN w W' x g u v :=
  ⟨h.below.trans (hb.mono h.below.size), h.box.to hb h.box.lt, h.gt, two_to h.two hb⟩
theorem NBox.far {w : World} {g : Nat} {x : NT} (h : NBox w g x) {p : Addr} (hp : p.block ≠ g) (u : Value) : NBox (w.setCell p u) g x := by
  refine ⟨by simpa using h.lt, ?_, ?_, ?_⟩
  · rw [World.cell?_setCell_other _ _ _ _ (by rintro rfl; exact hp rfl)]; exact h.c0
  · rw [World.cell?_setCell_other _ _ _ _ (by rintro rfl; exact hp rfl)]; exact h.c1
  · rw [World.cell?_setCell_other _ _ _ _ (by rintro rfl; exact hp rfl)]; exact h.c2
theorem WN.set {w W : World} {x : NT} {g : Nat} {u v : Int} (h : WN w W x g u v) (u' v' : Int) : WN w ((W.setCell ⟨g, 0, none⟩ (.int .i64 u')).setCell ⟨g, 1, none⟩ (.int .i64 v')) x g u' v' := by
  have hg := h.gt
  exact ⟨(h.below.setCell (by simp; omega) _).setCell (by simp; omega) _, (h.box.far (by simp; omega) _).far (by simp; omega) _, hg, h.two.set _ _⟩
theorem wn_new {w wF : World} {x : NT} (hb : Below w.heap.size w wF) (hx : NBox wF w.heap.size x) (u v : Int) : WN w (wF.alloc (.cells #[.int .i64 u, .int .i64 v] 28)) x wF.heap.size u v :=
  ⟨hb.alloc hb.size _, hx.to ((Below.refl _ _).alloc (Nat.le_refl _) _) hx.lt, hx.lt, two_new _ _ _ _⟩
theorem sb_nil {w : World} {a : Option Addr} {c : Nat} (h : PrL w w.heap.size a c []) : Calls Try.prog 22 #[.slice a 0 c, .slice none 0 0] w fun e w' => e = .returned (.bool true) ∧ Below w.heap.size w w' := by
  refine (sameBounds_any a none c 0 [] [] w h ⟨fun h => by simp at h, by simp, by simp [maxLen]⟩).mono ?_
  rintro e w' ⟨he, m, hw⟩
  exact ⟨by rw [he]; rfl, by rw [hw]; exact belowN (Below.refl _ _) m⟩
theorem sb_same {w : World} {a a' : Option Addr} {c c' : Nat} {b : List (Int × Int)} (h : PrL w w.heap.size a c b) (h' : PrL w w.heap.size a' c' b) : Calls Try.prog 22 #[.slice a b.length c, .slice a' b.length c'] w fun e w' => e = .returned (.bool true) ∧ Below w.heap.size w w' := by
  refine (sameBounds_any a a' c c' b b w h h').mono ?_
  rintro e w' ⟨he, m, hw⟩
  exact ⟨by rw [he, decide_eq_true rfl], by rw [hw]; exact belowN (Below.refl _ _) m⟩
set_option maxHeartbeats 4000000 in
theorem bmspec_any (hNv : NvC) (hNa : NaC) (hNs : NsC) (hNb : NbC) (x : NT) (n : Int) (w : World) (hX : NTIn w w.heap.size x) :
    Calls Try.prog 4 #[.agg #[.slice x.ai x.init.length x.ci, .slice x.ag x.goal.length x.cg, .slice x.ao x.ops.length x.co], .int .i64 n] w fun e w' => e = .returned (.bool true) ∧ Below w.heap.size w w' := by
  have HX0 := Lib.hid (fun (W : World) (h : Below w.heap.size w W) => hX.to h h.size)
  have HB0 := Lib.hid (al_b w (.cells #[.slice x.ai x.init.length x.ci, .slice x.ag x.goal.length x.cg, .slice x.ao x.ops.length x.co] 26))
  have HBX := Lib.hid (nbox_new w x 26)
  have HNF := Lib.hid (numericFault_any x _ (HX0.out _ HB0.out))
  have HNB := Lib.hid (fun (W : World) (h : NTIn W W.heap.size x) => hNb x n W h)
  clear hX
  by_cases h0 : (nfF x).1 = 0
  case neg =>
    have hq : nbF x n = nfF x := by unfold nbF; rw [if_pos h0]
    have hq2 : nbL x n = [] := by unfold nbL; rw [hq, if_neg h0]
    rw [hq, hq2] at HNB
    have hne : ((nfF x).1 == 0) = false := by simpa using h0
    clear h0 hq hq2
    go_enter Try.func4, Try.ntmps4
    go_wp2_with (first | (go_at_call 8; (with_reducible refine HNF.out.mono ?_); rintro e wF ⟨rfl, hb⟩; have hN := Lib.hid (wn_new (HB0.out.trans (hb.mono HB0.out.size)) (HBX.out.to hb HBX.out.lt) (nfF x).1 (nfF x).2); clear hb; obtain ⟨_, ⟨_, t0, t1, t2⟩, _, ⟨_, k0, k1, f0, f1⟩⟩ := hN.out) | (go_at_call 16; refine (in_any _ _ _ _).mono ?_; rintro e w' ⟨rfl, rfl⟩) | (go_at_call 21; (with_reducible refine (HNB.out _ (HX0.out _ hN.out.below)).mono ?_); rintro e wB ⟨aB, cB, rfl, hl, hb⟩; have HLB := Lib.hid (fun (V : World) (h : Below wB.heap.size wB V) => hl.to h h.size); have hN := Lib.hid ((hN.out.to hb).to (al_b wB (.cells #[.int .i64 (nfF x).1, .int .i64 (nfF x).2] 28))); have hT2 := Lib.hid (two_new wB (.int .i64 (nfF x).1) (.int .i64 (nfF x).2) 28); have hBa := Lib.hid (al_b wB (.cells #[.int .i64 (nfF x).1, .int .i64 (nfF x).2] 28)); have HBO2 := Lib.hid hb; clear hl hb; obtain ⟨_, ⟨_, t0, t1, t2⟩, _, ⟨_, k0, k1, f0, f1⟩⟩ := hN.out; obtain ⟨_, z0, z1, z2, z3⟩ := hT2.out) | (go_at_call 9; (with_reducible refine (counts_any hNv hNa hNs hNb _).mono ?_); rintro e wC ⟨rfl, hb⟩; have hN := Lib.hid (hN.out.to hb); have hT2 := Lib.hid (two_to hT2.out hb); have hBa := Lib.hid (hBa.out.trans (hb.mono hBa.out.size)); clear hb; obtain ⟨_, ⟨_, t0, t1, t2⟩, _, ⟨_, k0, k1, f0, f1⟩⟩ := hN.out; obtain ⟨_, z0, z1, z2, z3⟩ := hT2.out) | (go_at_call 22; (with_reducible refine (sb_nil (HLB.out _ hBa.out)).mono ?_); rintro e wS ⟨rfl, hb⟩; have hN := Lib.hid (hN.out.to hb)))
    go_ret
    exact ⟨rfl, hN.out.below⟩
  case pos =>
    obtain ⟨hv, hz⟩ := nf_val h0
    rw [hz] at HNF
    cases hi : inB n 0 60
    case false =>
      have hq : nbF x n = (3, -5) := by unfold nbF; rw [if_neg (by simp [h0]), hi]; rfl
      have hq2 : nbL x n = [] := by unfold nbL; rw [hq]; rfl
      rw [hq, hq2] at HNB
      clear h0 hq hq2 hv hz
      go_enter Try.func4, Try.ntmps4
      go_wp2_with (first | (go_at_call 8; (with_reducible refine HNF.out.mono ?_); rintro e wF ⟨rfl, hb⟩; have hN := Lib.hid (wn_new (HB0.out.trans (hb.mono HB0.out.size)) (HBX.out.to hb HBX.out.lt) 0 0); clear hb; obtain ⟨_, ⟨_, t0, t1, t2⟩, _, ⟨_, k0, k1, f0, f1⟩⟩ := hN.out) | (go_at_call 16; refine (in_any _ _ _ _).mono ?_; rintro e w' ⟨rfl, rfl⟩) | (go_at_call 15; refine (at_any _ _ _).mono ?_; rintro e w3 ⟨rfl, hb3⟩; have hN := Lib.hid (hN.out.to hb3); obtain ⟨_, ⟨_, t0, t1, t2⟩, _, ⟨_, k0, k1, f0, f1⟩⟩ := hN.out; have hN := Lib.hid (hN.out.set 3 (-5)); clear hb3) | (go_at_call 21; (with_reducible refine (HNB.out _ (HX0.out _ hN.out.below)).mono ?_); rintro e wB ⟨aB, cB, rfl, hl, hb⟩; have HLB := Lib.hid (fun (V : World) (h : Below wB.heap.size wB V) => hl.to h h.size); have hN := Lib.hid ((hN.out.to hb).to (al_b wB (.cells #[.int .i64 3, .int .i64 (-5)] 28))); have hT2 := Lib.hid (two_new wB (.int .i64 3) (.int .i64 (-5)) 28); have hBa := Lib.hid (al_b wB (.cells #[.int .i64 3, .int .i64 (-5)] 28)); have HBO2 := Lib.hid hb; clear hl hb; obtain ⟨_, ⟨_, t0, t1, t2⟩, _, ⟨_, k0, k1, f0, f1⟩⟩ := hN.out; obtain ⟨_, z0, z1, z2, z3⟩ := hT2.out) | (go_at_call 9; (with_reducible refine (counts_any hNv hNa hNs hNb _).mono ?_); rintro e wC ⟨rfl, hb⟩; have hN := Lib.hid (hN.out.to hb); have hT2 := Lib.hid (two_to hT2.out hb); have hBa := Lib.hid (hBa.out.trans (hb.mono hBa.out.size)); clear hb; obtain ⟨_, ⟨_, t0, t1, t2⟩, _, ⟨_, k0, k1, f0, f1⟩⟩ := hN.out; obtain ⟨_, z0, z1, z2, z3⟩ := hT2.out) | (go_at_call 22; (with_reducible refine (sb_nil (HLB.out _ hBa.out)).mono ?_); rintro e wS ⟨rfl, hb⟩; have hN := Lib.hid (hN.out.to hb)))
      go_ret
      exact ⟨rfl, hN.out.below⟩
    case true =>
      have hq : nbF x n = (0, 0) := by unfold nbF; rw [if_neg (by simp [h0]), hi]; rfl
      have hq2 : nbL x n = bdn x n.toNat := by unfold nbL; rw [hq]; rfl
      rw [hq, hq2] at HNB
      obtain ⟨g0, g1⟩ := inB_iff.1 hi
      obtain ⟨m, rfl⟩ := Int.eq_ofNat_of_zero_le g0
      rw [Int.toNat_natCast] at HNB
      have HBF := Lib.hid (fun (W : World) (h : NTIn W W.heap.size x) => boundsOf_any x hv m (by omega) W h)
      generalize bdn x m = bb at *
      clear h0 hq hq2 hv hz g0 g1
      go_enter Try.func4, Try.ntmps4
      go_wp2_with (first | (go_at_call 8; (with_reducible refine HNF.out.mono ?_); rintro e wF ⟨rfl, hb⟩; have hN := Lib.hid (wn_new (HB0.out.trans (hb.mono HB0.out.size)) (HBX.out.to hb HBX.out.lt) 0 0); clear hb; obtain ⟨_, ⟨_, t0, t1, t2⟩, _, ⟨_, k0, k1, f0, f1⟩⟩ := hN.out) | (go_at_call 16; refine (in_any _ _ _ _).mono ?_; rintro e w' ⟨rfl, rfl⟩) | (go_at_call 20; (with_reducible refine (HBF.out _ (HX0.out _ hN.out.below)).mono ?_); rintro e wO ⟨aO, cO, rfl, hl, hb⟩; have HLO := Lib.hid (fun (V : World) (h : Below wO.heap.size wO V) => hl.to h h.size); have hN := Lib.hid (hN.out.to hb); have hBo := Lib.hid (Below.refl wO.heap.size wO); clear hl hb; obtain ⟨_, ⟨_, t0, t1, t2⟩, _, ⟨_, k0, k1, f0, f1⟩⟩ := hN.out) | (go_at_call 21; (with_reducible refine (HNB.out _ (HX0.out _ hN.out.below)).mono ?_); rintro e wB ⟨aB, cB, rfl, hl, hb⟩; have HLB := Lib.hid (fun (V : World) (h : Below wB.heap.size wB V) => hl.to h h.size); have hN := Lib.hid ((hN.out.to hb).to (al_b wB (.cells #[.int .i64 0, .int .i64 0] 28))); have hT2 := Lib.hid (two_new wB (.int .i64 0) (.int .i64 0) 28); have hBa := Lib.hid (al_b wB (.cells #[.int .i64 0, .int .i64 0] 28)); have HBO2 := Lib.hid hb; have hBo := Lib.hid (hBo.out.trans ((hb.trans (hBa.out.mono hb.size)).mono hBo.out.size)); clear hl hb; obtain ⟨_, ⟨_, t0, t1, t2⟩, _, ⟨_, k0, k1, f0, f1⟩⟩ := hN.out; obtain ⟨_, z0, z1, z2, z3⟩ := hT2.out) | (go_at_call 9; (with_reducible refine (counts_any hNv hNa hNs hNb _).mono ?_); rintro e wC ⟨rfl, hb⟩; have hN := Lib.hid (hN.out.to hb); have hT2 := Lib.hid (two_to hT2.out hb); have hBa := Lib.hid (hBa.out.trans (hb.mono hBa.out.size)); have hBo := Lib.hid (hBo.out.trans (hb.mono hBo.out.size)); clear hb; obtain ⟨_, ⟨_, t0, t1, t2⟩, _, ⟨_, k0, k1, f0, f1⟩⟩ := hN.out; obtain ⟨_, z0, z1, z2, z3⟩ := hT2.out) | (go_at_call 22; (with_reducible refine (sb_same (HLB.out _ hBa.out) (HLO.out _ hBo.out)).mono ?_); rintro e wS ⟨rfl, hb⟩; have hN := Lib.hid (hN.out.to hb)))
      go_ret
      exact ⟨rfl, hN.out.below⟩
end Go.Proofs.Ytiafplmaigpmeaa
