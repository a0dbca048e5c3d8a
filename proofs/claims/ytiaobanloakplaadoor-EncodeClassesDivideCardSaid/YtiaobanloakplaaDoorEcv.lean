/- Package encode: Cover, the walk. -/
import Derived.Test.YtiaobanloakplaaDoorEco
namespace Go.Proofs.YtiaobanloakplaaDoor
open Go.RowKit
set_option linter.unusedSimpArgs false
set_option linter.unusedVariables false
set_option maxRecDepth 100000

def covR (x : Tsk) (gs : List (List Int)) : List (List Int) := if (gfF x gs).1 = 0 then cov gs x.n.toNat else []
def CoP (w : World) (x : Tsk) (gs : List (List Int)) (e : Ending) (w' : World) : Prop := ∃ v, e = .returned (.tuple #[v, faultV (gfF x gs)]) ∧ Below w.heap.size w w' ∧ On (Rg w.heap.size w'.heap.size) w' (SlLs (covR x gs) v)
theorem slLs_nil (F : Nat → Prop) (W : World) : On F W (SlLs [] (.slice none 0 0)) := On.always fun W => ⟨none, 0, rfl, fun h => by simp at h, by simp, by simp [maxLen]⟩
theorem covS_len (gs : List (List Int)) (n : Nat) : (covS gs n).length = gs.length + n := by simp [covS]
theorem mask_one (k : Nat) : mask [(k : Int)] = 2 ^ k := by simp [mask]
theorem cvS_new (U : World) : CvS U ((U.alloc (.cells #[.slice none 0 0] 26)).alloc (.cells #[.int .u64 0] 67)) (.slice none 0 0) (.slice none 0 0) [] [] :=
  ⟨((Below.refl _ _).alloc (Nat.le_refl _) _).alloc (by first | (simp; done) | (simp; omega) | omega | (simp [World.setCell]; done) | (simp [World.setCell]; omega)) _, (by first | (simp; done) | (simp; omega) | omega | (simp [World.setCell]; done) | (simp [World.setCell]; omega)), by simp, by simp, by simp [mask_nil], by simp, ListsR.nil _ _⟩
set_option maxHeartbeats 4000000 in
theorem cover_any (x : Tsk) (gs : List (List Int)) (A : Option Addr) (c : Nat) (w : World) (hX : TskIn w w.heap.size x) (hG : Rws w w.heap.size A gs) (hgl : gs.length ≤ c) (hgm : c ≤ maxLen) (hT : TabIn w) :
    Calls Tryd.prog 9 #[.agg #[.int .i64 x.n, .slice x.ai x.init.length x.ci, .slice x.ag x.goal.length x.cg, .slice x.ao x.ops.length x.co], .slice A gs.length c] w (CoP w x gs) := by
  have hB2 : Below w.heap.size w ((w.alloc (.cells #[.int .i64 x.n, .slice x.ai x.init.length x.ci, .slice x.ag x.goal.length x.cg, .slice x.ao x.ops.length x.co] 25)).alloc (.cells #[.int .i64 0, .int .i64 0] 28)) := by go_grown
  have hK := gcheck_any x gs A c _ (hX.to hB2 hB2.size) (hG.to hB2 hB2.size) hgl hgm
  have HG := Lib.hid (fun (W : World) (h : Below w.heap.size w W) => hG.to h h.size)
  have HT := Lib.hid (fun (W : World) (h : Below w.heap.size w W) => hT.to h (Nat.le_refl _))
  clear hX hG hB2 hgm hgl hT
  have hF0 := Lib.hid (fr1_new w x 25 28)
  by_cases hz : (gfF x gs).1 = 0
  case neg =>
    have H := Lib.hid (show covR x gs = [] by unfold covR; rw [if_neg hz])
    have HR := Lib.hid (show gfF x gs = gfF x gs from rfl)
    generalize hr : gfF x gs = r at hz hK
    have hne : (r.1 != 0) = true := by simpa using hz
    have hne2 : (r.1 == 0) = false := by simpa using hz
    have HRR := Lib.hid hr
    have HK := Lib.hid hK
    clear hz hr hK
    go_enter Tryd.func9, Tryd.ntmps9
    go_wp2_with (go_at_call 37; (with_reducible refine HK.out.mono ?_); rintro e w1 ⟨rfl, hbw⟩; have hF := Lib.hid ((hF0.out.to hbw).alloc (.cells #[.int .i64 r.1, .int .i64 r.2] 28)); clear hbw; obtain ⟨_, ⟨_, t0, t1, t2, t3⟩, ⟨_, k0, k1, f0, f1⟩⟩ := hF.out)
    go_region
    all_goals
      go_wp2
      have htw := hF.out.two
      have hbe := hF.out.below
      refine post_with_fault (g := w.heap.size + 1) (x := .int .i64 r.1) (y := .int .i64 r.2) Tryd.results9 rfl ?_ ?_
      · (repeat' (first | (with_reducible assumption) | (with_reducible exact two_new _ _ _ _) | (with_reducible exact (two_new _ _ _ _).pair) | (with_reducible exact Two.pair ‹_›) | (with_reducible refine Pair.set ?_ _ _) | (with_reducible refine Two.alloc ?_ _) | (with_reducible refine Pair.alloc ?_ _) | (with_reducible refine two1 ?_) | (with_reducible refine twoN ?_ _) | (with_reducible refine Pair.drew ?_) | (with_reducible refine Pair.drewN ?_ _) | (with_reducible refine Two.far ?_ ?_ _) | (with_reducible refine Pair.far ?_ ?_ _) | (simp; omega)))
      · refine ⟨_, by rw [HRR.out], ?_, by rw [H.out]; exact slLs_nil _ _⟩
        (repeat' (first | (with_reducible assumption) | (with_reducible exact Below.refl _ _) | (with_reducible refine belowN ?_ _) | (with_reducible refine Below.alloc ?_ ?_ _) | (with_reducible refine Below.drew ?_) | (with_reducible refine Below.setCell ?_ ?_ _) | go_size))
  obtain ⟨hr0, htk, hg24, hgood⟩ := gfF_zero hz
  have hv := tkF_val htk
  have H := Lib.hid (show covR x gs = (covN (covS gs x.n.toNat) (gs.length + x.n.toNat)).1 by unfold covR; rw [if_pos hz]; rfl)
  have hIS : ∀ k, k < gs.length → IsS (rw_ gs k) 24 := fun k hk => (setB_iff.1 (hgood k hk).1).mono (by have := hv.eq; have := hv.le; omega)
  have hn := hv.eq
  have hnl := hv.le
  rw [hr0] at hK
  have HR := Lib.hid hr0
  obtain ⟨r, hr⟩ : ∃ r : Int × Int, r = (0, 0) := ⟨_, rfl⟩
  have hr1 : r.1 = 0 := by rw [hr]
  have hr2 : r.2 = 0 := by rw [hr]
  rw [← hr] at hK
  have HIS := Lib.hid hIS
  generalize hnn : x.n.toNat = n at *
  have HN := Lib.hid hn
  have HK := Lib.hid hK
  have hne : (r.1 != 0) = false := by simp [hr1]
  have hne2 : (r.1 == 0) = true := by simp [hr1]
  have hne3 : (r.2 != 0) = false := by simp [hr2]
  have hne4 : (r.2 == 0) = true := by simp [hr2]
  have HRE := Lib.hid hr
  clear hz hr0 htk hgood hv hr hr1 hr2 hK hnn hIS hn
  have HLN := Lib.hid (covS_len gs n)
  have HL1 := Lib.hid (fun k (h : k < gs.length) => covS_left (n := n) h)
  have HL2 := Lib.hid (fun k (h : k < n) => covS_right (gs := gs) h)
  generalize covS gs n = L at *
  go_enter Tryd.func9, Tryd.ntmps9
  go_wp2_with (go_at_call 37; (with_reducible refine HK.out.mono ?_); rintro e w1 ⟨rfl, hbw⟩; have hF := Lib.hid ((hF0.out.to hbw).alloc (.cells #[.int .i64 r.1, .int .i64 r.2] 28)); clear hbw; obtain ⟨_, ⟨_, t0, t1, t2, t3⟩, ⟨_, k0, k1, f0, f1⟩⟩ := hF.out)
  have hUs : (w1.alloc (.cells #[.int .i64 r.1, .int .i64 r.2] 28)).heap.size = w1.heap.size + 1 := by simp
  clear t0 t1 t2 t3 k0 k1 f0 f1
  generalize w1.alloc (.cells #[.int .i64 r.1, .int .i64 r.2] 28) = U at *
  generalize w1.heap.size + 1 = q at *
  have hlq : w.heap.size + 1 < q := by rw [← hUs]; exact hF.out.two.lt
  have HQ := Lib.hid hUs
  have HC0 := Lib.hid (cvS_new U)
  have HFU := Lib.hid (fun (W : World) (h : Below U.heap.size U W) => hF.out.to h)
  have HAD := Lib.hid (fun (g u : List Int) (cs : List (List Int)) (v : Value) (W : World) (hg : IsS g 24) (hu : IsS u 24) (hcl : cs.length ≤ 48) (hC : CvS U W v v cs u) => (by have h := add_any g u cs v U W hg hu hcl hC ((HT.out _ hF.out.below).to hC.below (Nat.le_refl _)); rw [hUs] at h; exact h : Calls Tryd.prog 38 #[.int .u64 (mask g), .pointer (some ⟨q + 1, 0, none⟩), .pointer (some ⟨q, 0, none⟩)] W (AddP U (addR g (cs, u)).1 (addR g (cs, u)).2)))
  clear hUs
  go_loopw [23] (fun i wr => ∃ (k : Nat) (v : Value), k ≤ gs.length ∧ i = .int .i64 k ∧ CvS U wr v v (covN L k).1 (covN L k).2) (fun i _ => gs.length - (intOf i).toNat)
  case atStart => exact ⟨0, _, by omega, rfl, HC0.out⟩
  case round =>
    obtain ⟨k, v, hk, rfl, hc⟩ := hrel
    have HC := Lib.hid hc
    clear hc
    by_cases hlt : k < gs.length
    case pos =>
      obtain ⟨b, o, ak, ck, rfl, hbl, hcell, hlst⟩ := (HG.out _ (hF.out.below.trans (HC.out.below.mono hF.out.below.size))).at_ hlt
      have HSO := Lib.hid (setOf_any ak ck (rw_ gs k) wr (HIS.out k hlt) hlst.nums)
      have HCA := Lib.hid (HAD.out (rw_ gs k) (covN L k).2 (covN L k).1 v wr (HIS.out k hlt) (covN_isS L k) (by have := covN_len L k; omega) HC.out)
      have HST := Lib.hid (show covN L (k + 1) = addR (rw_ gs k) ((covN L k).1, (covN L k).2) by rw [covN_add, HL1.out k hlt])
      clear hlst
      go_wp2_with (first | (go_at_call 40; (with_reducible refine HSO.out.mono ?_); rintro e w' ⟨rfl, rfl⟩) | (go_at_call 38; (with_reducible refine HCA.out.mono ?_); rintro e w2 ⟨r2, v2, rfl, hc2⟩))
      go_roundw
      case rel => exact ⟨k + 1, v2, by omega, by go_num, by rw [HST.out]; exact hc2⟩
      case measure => simp [intOf]; omega
    have hge : ¬ ((k : Int) < gs.length) := by omega
    have HK0 := Lib.hid (show k = gs.length + 0 by omega)
    obtain ⟨_, ⟨_, t0, t1, t2, t3⟩, ⟨_, k0, k1, f0, f1⟩⟩ := HFU.out _ HC.out.below
    rw [HN.out] at t0
    go_wp2
    have HC1 := Lib.hid HC.out
    rw [HK0.out] at HC1
    clear t0 t1 t2 t3 k0 k1 f0 f1 hge
    go_loopw [34] (fun i wr => ∃ (j : Nat) (v : Value), j ≤ n ∧ i = .int .i64 j ∧ CvS U wr v v (covN L (gs.length + j)).1 (covN L (gs.length + j)).2) (fun i _ => n - (intOf i).toNat)
    case atStart => exact ⟨0, _, by omega, rfl, HC1.out⟩
    case round =>
      obtain ⟨j, v2, hj, rfl, hc⟩ := hrel
      have HC := Lib.hid hc
      clear hc
      by_cases hlt2 : j < n
      case pos =>
        have hsh : IntKind.u64.wrap ((2 : Int) ^ j) = ((mask [(j : Int)] : Nat) : Int) := by
          rw [mask_one, IntKind.wrap_u64, pow_cast]
          have h9 : (2 : Nat) ^ j < 2 ^ 64 := Nat.pow_lt_pow_right (by omega) (by omega)
          generalize 2 ^ j = z at h9 ⊢
          omega
        have hi1 : IsS [(j : Int)] 24 := ⟨List.pairwise_singleton _ _, fun y hy => by rw [List.mem_singleton] at hy; omega⟩
        have HCA := Lib.hid (HAD.out [(j : Int)] (covN L (gs.length + j)).2 (covN L (gs.length + j)).1 v2 wr hi1 (covN_isS L _) (by have := covN_len L (gs.length + j); omega) HC.out)
        have HST := Lib.hid (show covN L (gs.length + (j + 1)) = addR [(j : Int)] ((covN L (gs.length + j)).1, (covN L (gs.length + j)).2) by rw [← Nat.add_assoc, covN_add, HL2.out j hlt2])
        generalize mask [(j : Int)] = mj at *
        clear hi1
        go_wp2_with (go_at_call 38; (with_reducible refine HCA.out.mono ?_); rintro e w2 ⟨r2, v2, rfl, hc2⟩)
        go_roundw
        case rel => exact ⟨j + 1, v2, by omega, by go_num, by rw [HST.out]; exact hc2⟩
        case measure => simp [intOf]; omega
      have hge : ¬ ((j : Int) < n) := by omega
      have HJ := Lib.hid (show j = n by omega)
      obtain ⟨hbU, hlU, c7, f7, c8, f8, hrow⟩ := HC.out
      have hs := hrow.slice
      obtain ⟨av, cv, rfl, _⟩ := hs
      rw [HQ.out] at c7
      have hF9 := Lib.hid (HFU.out _ hbU)
      obtain ⟨_, _, ⟨_, k0, k1, f0, f1⟩⟩ := hF9.out
      have HON := Lib.hid hrow.on
      have HQ2 := Lib.hid (show w.heap.size + 2 ≤ U.heap.size + 2 by rw [HQ.out]; omega)
      have HQ3 := Lib.hid (show w.heap.size + 1 < U.heap.size + 2 by rw [HQ.out]; omega)
      clear hbU hlU c8 f8 hrow
      go_wp2
      refine post_with_fault (g := w.heap.size + 1) (x := .int .i64 0) (y := .int .i64 0) Tryd.results9 rfl (hF9.out.two.set _ _) ?_
      refine ⟨.slice av (covN L (gs.length + j)).1.length cv, by rw [HR.out]; rfl, (hF9.out.below.setCell (by simp) _).setCell (by simp) _, ?_⟩
      rw [H.out, ← HJ.out]
      have h3 := HQ3.out
      exact (HON.out.mv (((Eqr.refl _ _ _).set (.inl (by first | (simp; done) | (simp; omega) | omega | (simp [World.setCell]; done) | (simp [World.setCell]; omega))) _).set (.inl (by first | (simp; done) | (simp; omega) | omega | (simp [World.setCell]; done) | (simp [World.setCell]; omega))) _)).wide (by first | (simp; done) | (simp; omega) | omega | (simp [World.setCell]; done) | (simp [World.setCell]; omega)) (by first | (simp; done) | (simp; omega) | omega | (simp [World.setCell]; done) | (simp [World.setCell]; omega))
end Go.Proofs.YtiaobanloakplaaDoor
