/- exactly, sum, changed and mayHold of package numeric. -/
import Derived.Test.YtiafplmaigpmeaaNza
import Derived.Test.YtiafplmaigpmeaaNbo
import Derived.OwnWalk
namespace Go.Proofs.Ytiafplmaigpmeaa
open Go.RowKit
set_option linter.unusedSimpArgs false
set_option linter.unusedVariables false
set_option maxRecDepth 100000

/-- The intervals that hold one value each, of the first k values. -/
def exP (v : List Int) (k : Nat) : List (Int × Int) := (List.range v.length).map (fun j => if j < k then (ix v j, ix v j) else (0, 0))
def exl (v : List Int) : List (Int × Int) := v.map (fun z => (z, z))
theorem exP_len (v : List Int) (k : Nat) : (exP v k).length = v.length := by simp [exP]
theorem exl_len (v : List Int) : (exl v).length = v.length := by simp [exl]
theorem exP_at {v : List Int} {k j : Nat} (hj : j < v.length) : prx (exP v k) j = if j < k then (ix v j, ix v j) else (0, 0) := by simp [prx, exP, List.getD, hj]
theorem exl_at {v : List Int} {j : Nat} (hj : j < v.length) : prx (exl v) j = (ix v j, ix v j) := by simp [prx, exl, ix, List.getD, hj]
theorem exP_0 (v : List Int) : exP v 0 = List.replicate v.length (0, 0) := by
  refine List.ext_getElem (by simp [exP]) (fun j h1 h2 => ?_)
  simp [exP]
theorem exP_all (v : List Int) : exP v v.length = exl v := by
  refine List.ext_getElem (by simp [exP, exl]) (fun j h1 h2 => ?_)
  have : j < v.length := by simpa [exP] using h1
  simp [exP, exl, ix, List.getD, this]
theorem exP_step {v : List Int} {k : Nat} (hk : k < v.length) : (exP v k).set k (ix v k, ix v k) = exP v (k + 1) := by
  refine List.ext_getElem (by simp [exP]) (fun j h1 h2 => ?_)
  have hj : j < v.length := by simpa [exP] using h1
  by_cases e : j = k
  · subst e
    simp [exP]
  · rw [List.getElem_set_ne (by omega)]
    simp only [exP, List.getElem_map, List.getElem_range]
    by_cases hjk : j < k
    · rw [if_pos hjk, if_pos (by omega)]
    · rw [if_neg hjk, if_neg (by omega)]
theorem exl_ok {n : Nat} {v : List Int} (h : VOk n v) : BOk n (exl v) := by
  have hl := exl_len v
  exact ⟨by rw [hl]; exact h.len, fun k hk => by rw [exl_at (by omega)]; exact h.b k (by omega), fun k hk => by rw [exl_at (by omega)]; exact h.b k (by omega)⟩
theorem fl_zero : ∀ n, fl (List.replicate n (0, 0)) = List.replicate (n * 2) (Value.int .i64 0)
  | 0 => rfl
  | n + 1 => by
    rw [List.replicate_succ, show (n + 1) * 2 = n * 2 + 1 + 1 by omega, List.replicate_succ, List.replicate_succ, ← fl_zero n]
    rfl
theorem made_pr (n : Nat) : (madeCells #[Value.int .i64 0, .int .i64 0] (n * 2)).toList = fl (List.replicate n (0, 0)) := by
  rw [fl_zero]
  refine List.ext_getElem? (fun k => ?_)
  simp only [madeCells]
  by_cases hk : k < n * 2
  · have : k % 2 = 0 ∨ k % 2 = 1 := by omega
    rcases this with h | h
    · simp [hk, h]
    · simp [hk, h]
  · simp [hk]
/-- Intervals in a row of the call's own. -/
def BdO (w : World) (b : List (Int × Int)) (e : Ending) (w' : World) : Prop := ∃ v, e = .returned v ∧ OwP w' w.heap.size v b ∧ Below w.heap.size w w'
theorem owp_set {W : World} {base g cap n : Nat} {b : List (Int × Int)} (h : W.ownsRow base 50 2 (.slice (some ⟨g, 0, none⟩) n cap) n (fl b)) (hn : b.length = n) {k : Nat} (hk : k < n) (p : Int × Int) :
    ((W.setCell ⟨g, k * 2, none⟩ (.int .i64 p.1)).setCell ⟨g, k * 2 + 1, none⟩ (.int .i64 p.2)).ownsRow base 50 2 (.slice (some ⟨g, 0, none⟩) n cap) n (fl (b.set k p)) := by
  subst hn
  have h1 := OwP.lo h hk p.1
  have h2 := OwP.hi h1 (k := k) (by simpa using hk) p.2
  rw [prx_same hk] at h2
  simp only [OwP, List.set_set, List.length_set] at h2
  exact h2
set_option maxHeartbeats 2000000 in
theorem exactly_any (A : Option Addr) (c : Nat) (v : List Int) (hn : v.length ≤ 8) (w : World) (hL : Lst w w.heap.size A c v) :
    Calls Try.prog 33 #[.slice A v.length c] w (BdO w (exl v)) := by
  have HL := Lib.hid (fun (W : World) (h : Below w.heap.size w W) => hL.to h h.size)
  obtain ⟨j0, ji0, jz0, jz1, jz2⟩ := info_parts info_pr
  clear hL
  go_enter Try.func33, Try.ntmps33
  go_wp2_with (at_make; refine wpList_make_full _ rfl _ _ 44 rfl w.heap.size 50 j0 (.agg #[.int .i64 0, .int .i64 0]) 2 Try.underlying44 ji0 jz0 jz1 .i64 .i64 (v.length : Int) (v.length : Int) v.length rfl rfl rfl rfl (by rw [jz2]; omega) (by unfold maxLen; omega) (Nat.le_refl _) ?_)
  intro w1 hown hgr
  have e0 : (madeCells #[Value.int .i64 0, .int .i64 0] (v.length * 2)).toList = fl (exP v 0) := by rw [exP_0]; exact made_pr _
  rw [e0] at hown
  have HO0 := Lib.hid hown
  have HB0 := Lib.hid ((Below.refl w.heap.size w).grown hgr (Nat.le_refl _) (fun q hq => by cases hq))
  clear hown hgr e0 ji0 jz0 jz1 jz2
  go_wp2
  go_loopw [11] (fun i wr => ∃ k : Nat, k ≤ v.length ∧ i = .int .i64 k ∧ Below w.heap.size w wr ∧ wr.ownsRow w.heap.size 50 2 (.slice (some ⟨w.heap.size, 0, none⟩) v.length v.length) v.length (fl (exP v k))) (fun i _ => v.length - (intOf i).toNat)
  case atStart => exact ⟨0, by omega, rfl, HB0.out, HO0.out⟩
  case round =>
    obtain ⟨k, hk, rfl, hb, ho⟩ := hrel
    have HB := Lib.hid hb
    have HO := Lib.hid ho
    clear hb ho HO0 HB0
    by_cases hlt : k < v.length
    case neg =>
      have hge : ¬ ((k : Int) < v.length) := by omega
      have hkv : k = v.length := by omega
      have HE := Lib.hid hkv
      clear hkv hk hlt
      go_wp2
      go_ret
      exact ⟨_, rfl, by have := HO.out; rw [HE.out, exP_all] at this; exact owp_len this (exl_len v), HB.out⟩
    case pos =>
      obtain ⟨b, o, hA, hbl, hc⟩ := (HL.out _ HB.out).nums.at_ hlt
      subst hA
      have hlen := exP_len v k
      have c0 := HO.out.cellAt (k * 2) (by omega)
      have c1 := HO.out.cellAt (k * 2 + 1) (by omega)
      have f0 := HO.out.frozenAt (k * 2)
      have f1 := HO.out.frozenAt (k * 2 + 1)
      have g0 := fl_at (b := exP v k) (k := k) (by omega)
      rw [exP_at hlt, if_neg (by omega)] at g0
      rw [g0.1] at c0
      rw [g0.2] at c1
      clear g0
      go_wp2
      go_roundw
      case rel => exact ⟨k + 1, by omega, by go_num, (HB.out.setCell (by simp) _).setCell (by simp) _, by have := owp_set HO.out hlen hlt (ix v k, ix v k); rw [exP_step hlt] at this; exact this⟩
      case measure => simp [intOf]; omega

theorem lowK_bd {n : Nat} {f : List Int} {b : List (Int × Int)} (hf : FOk n f) (hb : BOk n b) {k : Nat} (hk : k ≤ n) (hn : n ≤ 8) : -8000000000 ≤ lowK f b k ∧ lowK f b k ≤ 8000000000 := by
  have h := exK_bd (s := -1) (Or.inr rfl) hf hb k hk
  rw [ex_low] at h
  omega
theorem highK_bd {n : Nat} {f : List Int} {b : List (Int × Int)} (hf : FOk n f) (hb : BOk n b) {k : Nat} (hk : k ≤ n) (hn : n ≤ 8) : -8000000000 ≤ highK f b k ∧ highK f b k ≤ 8000000000 := by
  have h := exK_bd (s := 1) (Or.inl rfl) hf hb k hk
  rw [ex_high] at h
  omega
theorem min_if (p q : Int) : (if q < p then q else p) = min p q := by
  split <;> omega
theorem max_if (p q : Int) : (if p < q then q else p) = max p q := by
  split <;> omega
theorem post_pair {fn : Func} {R : Ending → World → Prop} {tmps : Array Value} {W : World} {s : Tmp} {g : Nat} {x y : Value} (hres : fn.results = #[.cell s 50]) (ht : tmps.getD s undef = .pointer (some ⟨g, 0, none⟩)) (hT : Two W g x y) (hR : R (.returned (.agg #[x, y])) W) :
    bodyPost Try.prog fn R .ret { tmps := tmps, defers := [] } W := by
  refine bodyPost_ret (v := .agg #[x, y]) ?_ rfl hR
  simp only [results, hres]
  rw [Array.getD_eq_getD_getElem?] at ht
  simp [go_sem, ht, hT.fst, hT.snd]
set_option maxHeartbeats 4000000 in
theorem nsum_any (n : Nat) (hn : n ≤ 8) (a1 a2 : Option Addr) (c1 c2 : Nat) (f : List Int) (b : List (Int × Int)) (hf : FOk n f) (hb : BOk n b) (w : World) (h1 : Lst w w.heap.size a1 c1 f) (h2 : PrL w w.heap.size a2 c2 b) :
    Calls Try.prog 46 #[.slice a1 f.length c1, .slice a2 b.length c2] w fun e w' => e = .returned (.agg #[.int .i64 (lowS f b), .int .i64 (highS f b)]) ∧ Below w.heap.size w w' := by
  have HF := Lib.hid hf
  have HV := Lib.hid hb
  have H1 := Lib.hid (fun (W : World) (h : Below w.heap.size w W) => h1.to h h.size)
  have H2 := Lib.hid (fun (W : World) (h : Below w.heap.size w W) => h2.to h h.size)
  have hf8 : f.length ≤ 8 := by have := hf.len; omega
  have hvf : f.length ≤ b.length := by have := hf.len; have := hb.len; omega
  have hfn : f.length ≤ n := by have := hf.len; omega
  have HT0 := Lib.hid ((two_new w (.int .i64 0) (.int .i64 0) 50).alloc (.cells #[.int .i64 0, .int .i64 0] 50))
  have HS0 := Lib.hid (two_new (w.alloc (.cells #[.int .i64 0, .int .i64 0] 50)) (.int .i64 0) (.int .i64 0) 50)
  rw [World.size_alloc] at HS0
  clear hf hb h1 h2
  go_enter Try.func46, Try.ntmps46
  go_wp2
  go_loopw [12] (fun i wr => ∃ k : Nat, k ≤ f.length ∧ i = .int .i64 k ∧ Below w.heap.size w wr ∧ Two wr w.heap.size (.int .i64 0) (.int .i64 0) ∧ Two wr (w.heap.size + 1) (.int .i64 (lowK f b k)) (.int .i64 (highK f b k))) (fun i _ => f.length - (intOf i).toNat)
  case atStart => exact ⟨0, by omega, rfl, by go_grown, HT0.out, HS0.out⟩
  case round =>
    obtain ⟨k, hk, rfl, hb, ht, hs⟩ := hrel
    have HB := Lib.hid hb
    have HT := Lib.hid ht
    have HS := Lib.hid hs
    clear hb ht hs HT0 HS0
    obtain ⟨_, y0, y1, g0, g1⟩ := HS.out
    obtain ⟨_, z0, z1, e0, e1⟩ := HT.out
    by_cases hlt : k < f.length
    case neg =>
      have hge : ¬ ((k : Int) < f.length) := by omega
      have HE := Lib.hid (show k = f.length by omega)
      clear hk hlt
      go_wp2
      refine post_pair (g := w.heap.size) (x := .int .i64 (lowK f b k)) (y := .int .i64 (highK f b k)) Try.results46 rfl (HT.out.set _ _) ?_
      exact ⟨ret_val (by rw [HE.out]; rfl), (HB.out.setCell (by simp) _).setCell (by simp) _⟩
    case pos =>
      obtain ⟨b1, o1, hA1, _, hc1⟩ := (H1.out _ HB.out).nums.at_ hlt
      obtain ⟨b2, o2, hA2, _, hc2, hc3⟩ := (H2.out _ HB.out).at_ (k := k) (by omega)
      subst hA1
      subst hA2
      have hkb : k < b.length := by omega
      have q1 := HF.out.b k hlt
      have q2 := HV.out.lo k hkb
      have q3 := HV.out.hi k hkb
      have m1 := mul_bd q1.1 q1.2 q2.1 q2.2
      have m2 := mul_bd q1.1 q1.2 q3.1 q3.2
      have l1 := lowK_bd HF.out HV.out (k := k) (by omega) hn
      have l2 := highK_bd HF.out HV.out (k := k) (by omega) hn
      have hl : lowK f b (k + 1) = lowK f b k + min (ix f k * (prx b k).1) (ix f k * (prx b k).2) := rfl
      have hh : highK f b (k + 1) = highK f b k + max (ix f k * (prx b k).1) (ix f k * (prx b k).2) := rfl
      have HLH := Lib.hid (And.intro hl hh)
      clear hl hh
      generalize ix f k = fk at *
      generalize (prx b k).1 = lo at *
      generalize (prx b k).2 = hi at *
      have w1 : IntKind.i64.wrap (fk * lo) = fk * lo := IntWalk.i64_in _ (by omega)
      have w2 : IntKind.i64.wrap (fk * hi) = fk * hi := IntWalk.i64_in _ (by omega)
      have w3 : IntKind.i64.wrap (lowK f b k + min (fk * lo) (fk * hi)) = lowK f b k + min (fk * lo) (fk * hi) := IntWalk.i64_in _ (by omega)
      have w4 : IntKind.i64.wrap (highK f b k + max (fk * lo) (fk * hi)) = highK f b k + max (fk * lo) (fk * hi) := IntWalk.i64_in _ (by omega)
      have i1 := min_if (fk * lo) (fk * hi)
      have i2 := max_if (fk * lo) (fk * hi)
      clear q1 q2 q3 m1 m2 l1 l2
      go_wp2
      go_quiet (fail)
      go_wp2
      have HB2 := Lib.hid (((belowN HB.out nq).setCell (p := ⟨w.heap.size + 1, 0, none⟩) (by simp) (.int .i64 (lowK f b k + min (fk * lo) (fk * hi)))).setCell (p := ⟨w.heap.size + 1, 1, none⟩) (by simp) (.int .i64 (highK f b k + max (fk * lo) (fk * hi))))
      have HT2 := Lib.hid (((two_to HT.out (belowN (Below.refl _ _) nq)).far (p := ⟨w.heap.size + 1, 0, none⟩) (by simp) (.int .i64 (lowK f b k + min (fk * lo) (fk * hi)))).far (p := ⟨w.heap.size + 1, 1, none⟩) (by simp) (.int .i64 (highK f b k + max (fk * lo) (fk * hi))))
      have HS2 := Lib.hid ((two_to HS.out (belowN (Below.refl _ _) nq)).set (.int .i64 (lowK f b k + min (fk * lo) (fk * hi))) (.int .i64 (highK f b k + max (fk * lo) (fk * hi))))
      go_roundw
      case rel => exact ⟨k + 1, by omega, by go_num, HB2.out, HT2.out, by rw [HLH.out.1, HLH.out.2]; exact HS2.out⟩
      case measure => simp [intOf]; omega
theorem tri_al {w : World} {g : Nat} {u v y : Value} (h : Tri w g u v y) (o : Obj) : Tri (w.alloc o) g u v y := h.to ((Below.refl _ _).alloc (Nat.le_refl _) _)
set_option maxHeartbeats 2000000 in
theorem changed_any (n : Nat) (hn : n ≤ 8) (c : Chg) (hc : ChgOk n c) (a a2 : Option Addr) (ca c2 : Nat) (b : List (Int × Int)) (hb : BOk n b) (w : World) (h1 : Lst w w.heap.size a ca c.f) (h2 : PrL w w.heap.size a2 c2 b) :
    Calls Try.prog 44 #[.agg #[.int .i64 c.v, .slice a c.f.length ca, .int .i64 c.c], .slice a2 b.length c2] w fun e w' => e = .returned (.agg #[.int .i64 (lowS c.f b + c.c), .int .i64 (highS c.f b + c.c)]) ∧ Below w.heap.size w w' := by
  have hb1 : Below w.heap.size w ((w.alloc (.cells #[.int .i64 c.v, .slice a c.f.length ca, .int .i64 c.c] 55)).alloc (.cells #[.int .i64 0, .int .i64 0] 50)) := by go_grown
  have HB1 := Lib.hid hb1
  have HSM := Lib.hid (nsum_any n hn a a2 ca c2 c.f b hc.fok hb _ (h1.to hb1 hb1.size) (h2.to hb1 hb1.size))
  have HC1 := Lib.hid ((tri_new w (.int .i64 c.v) (.slice a c.f.length ca) (.int .i64 c.c) 55).to (w' := ((w.alloc (.cells #[.int .i64 c.v, .slice a c.f.length ca, .int .i64 c.c] 55)).alloc (.cells #[.int .i64 0, .int .i64 0] 50))) (by go_grown))
  have HT1 := Lib.hid (two_new (w.alloc (.cells #[.int .i64 c.v, .slice a c.f.length ca, .int .i64 c.c] 55)) (.int .i64 0) (.int .i64 0) 50)
  rw [World.size_alloc] at HT1
  have l1 := low_bd hn hc.fok hb
  have l2 := high_bd hn hc.fok hb
  have l3 := hc.c
  have w3 : IntKind.i64.wrap (lowS c.f b + c.c) = lowS c.f b + c.c := IntWalk.i64_in _ (by omega)
  have w4 : IntKind.i64.wrap (highS c.f b + c.c) = highS c.f b + c.c := IntWalk.i64_in _ (by omega)
  clear hc hb h1 h2 hb1 l1 l2 l3
  go_enter Try.func44, Try.ntmps44
  go_wp2_with (go_at_call 46; (with_reducible refine HSM.out.mono ?_); rintro e w2 ⟨rfl, hb2⟩; have HB2 := Lib.hid (HB1.out.trans (hb2.mono HB1.out.size)); have r2 := (tri_al (HC1.out.to hb2) (.cells #[.int .i64 (lowS c.f b), .int .i64 (highS c.f b)] 50)).c2; have HT2 := Lib.hid ((two_to HT1.out hb2).alloc (.cells #[.int .i64 (lowS c.f b), .int .i64 (highS c.f b)] 50)); obtain ⟨_, t0, t1, f0, f1⟩ := HT2.out; clear hb2)
  refine post_pair (g := w.heap.size + 1) (x := .int .i64 (lowS c.f b + c.c)) (y := .int .i64 (highS c.f b + c.c)) Try.results44 rfl (HT2.out.set _ _) ?_
  exact ⟨rfl, ((b1a (Nat.le_refl _) HB2.out _).setCell (by simp) _).setCell (by simp) _⟩
theorem ex_true {c : Cmp} {b : List (Int × Int)} (h : highS c.f b < c.b) : (!poss1 c b) = true := by simp [poss1]; omega
set_option maxHeartbeats 2000000 in
theorem excluded_any (n : Nat) (hn : n ≤ 8) (c : Cmp) (hc : CmpOk n c) (a a2 : Option Addr) (ca c2 : Nat) (b : List (Int × Int)) (hb : BOk n b) (gb : Nat) (w : World) (h1 : Lst w w.heap.size a ca c.f) (h2 : PrL w w.heap.size a2 c2 b)
    (hg : gb < w.heap.size) (hgc : w.cell? ⟨gb, 0, none⟩ = some (.slice a2 b.length c2)) :
    Calls Try.prog 45 #[.agg #[.slice a c.f.length ca, .int .i64 c.k, .int .i64 c.b], .pointer (some ⟨gb, 0, none⟩)] w fun e w' => e = .returned (.bool (!poss1 c b)) ∧ Below w.heap.size w w' := by
  have hb1 : Below w.heap.size w (w.alloc (.cells #[.slice a c.f.length ca, .int .i64 c.k, .int .i64 c.b] 70)) := by go_grown
  have HB1 := Lib.hid hb1
  have HSM := Lib.hid (nsum_any n hn a a2 ca c2 c.f b hc.fok hb _ (h1.to hb1 hb1.size) (h2.to hb1 hb1.size))
  have HC1 := Lib.hid (tri_new w (.slice a c.f.length ca) (.int .i64 c.k) (.int .i64 c.b) 70)
  have hg1 : (w.alloc (.cells #[.slice a c.f.length ca, .int .i64 c.k, .int .i64 c.b] 70)).cell? ⟨gb, 0, none⟩ = some (.slice a2 b.length c2) := (hb1.cell (p := ⟨gb, 0, none⟩) hg).trans hgc
  have hne : gb ≠ w.heap.size := by omega
  clear hc hb h1 h2 hb1
  by_cases hH : highS c.f b < c.b
  · have H := Lib.hid (show (!poss1 c b) = true by simp [poss1]; omega)
    go_enter Try.func45, Try.ntmps45
    go_wp2_with (go_at_call 46; (with_reducible refine HSM.out.mono ?_); rintro e w2 ⟨rfl, hb2⟩; have HB2 := Lib.hid (HB1.out.trans (hb2.mono HB1.out.size)); have HA := tri_al (HC1.out.to hb2) (.cells #[.int .i64 (lowS c.f b), .int .i64 (highS c.f b)] 50); obtain ⟨_, _, r1, r2⟩ := HA; clear hb2)
    go_ret
    exact ⟨ret_val (by rw [H.out]; first | rfl | simp [*]), b1a (Nat.le_refl _) HB2.out _⟩
  have e1 : decide (highS c.f b < c.b) = false := decide_eq_false hH
  by_cases hK : c.k = 2
  case neg =>
    have H := Lib.hid (show (!poss1 c b) = false by simp [poss1]; omega)
    have hkk : (c.k == 2) = false := by simpa using hK
    clear hK
    go_enter Try.func45, Try.ntmps45
    go_wp2_with (go_at_call 46; (with_reducible refine HSM.out.mono ?_); rintro e w2 ⟨rfl, hb2⟩; have HB2 := Lib.hid (HB1.out.trans (hb2.mono HB1.out.size)); have HA := tri_al (HC1.out.to hb2) (.cells #[.int .i64 (lowS c.f b), .int .i64 (highS c.f b)] 50); obtain ⟨_, _, r1, r2⟩ := HA; clear hb2)
    go_ret
    exact ⟨ret_val (by rw [H.out]; first | rfl | simp [*]), b1a (Nat.le_refl _) HB2.out _⟩
  have hkk : (c.k == 2) = true := by simpa using hK
  by_cases hL : c.b < lowS c.f b
  · have H := Lib.hid (show (!poss1 c b) = true by simp [poss1]; omega)
    have e2 : decide (c.b < lowS c.f b) = true := decide_eq_true hL
    clear hK
    go_enter Try.func45, Try.ntmps45
    go_wp2_with (go_at_call 46; (with_reducible refine HSM.out.mono ?_); rintro e w2 ⟨rfl, hb2⟩; have HB2 := Lib.hid (HB1.out.trans (hb2.mono HB1.out.size)); have HA := tri_al (HC1.out.to hb2) (.cells #[.int .i64 (lowS c.f b), .int .i64 (highS c.f b)] 50); obtain ⟨_, _, r1, r2⟩ := HA; clear hb2)
    go_ret
    exact ⟨ret_val (by rw [H.out]; first | rfl | simp [*]), b1a (Nat.le_refl _) HB2.out _⟩
  · have H := Lib.hid (show (!poss1 c b) = false by simp [poss1]; omega)
    have e2 : decide (c.b < lowS c.f b) = false := decide_eq_false hL
    clear hK
    go_enter Try.func45, Try.ntmps45
    go_wp2_with (go_at_call 46; (with_reducible refine HSM.out.mono ?_); rintro e w2 ⟨rfl, hb2⟩; have HB2 := Lib.hid (HB1.out.trans (hb2.mono HB1.out.size)); have HA := tri_al (HC1.out.to hb2) (.cells #[.int .i64 (lowS c.f b), .int .i64 (highS c.f b)] 50); obtain ⟨_, _, r1, r2⟩ := HA; clear hb2)
    go_ret
    exact ⟨ret_val (by rw [H.out]; first | rfl | simp [*]), b1a (Nat.le_refl _) HB2.out _⟩
set_option maxHeartbeats 2000000 in
theorem indexC_any (n : Nat) (hn : n ≤ 8) (A a2 : Option Addr) (C c2 : Nat) (l : List Cmp) (b : List (Int × Int)) (hl : ∀ k, k < l.length → CmpOk n (cmp l k)) (hb : BOk n b) (gb : Nat) (w : World) (h1 : CmpL w w.heap.size A C l) (h2 : PrL w w.heap.size a2 c2 b)
    (hg : gb < w.heap.size) (hgc : w.cell? ⟨gb, 0, none⟩ = some (.slice a2 b.length c2)) :
    Calls Try.prog 50 #[.slice A l.length C, .func (.func 45) #[] #[.pointer (some ⟨gb, 0, none⟩)]] w fun e w' => e = .returned (.int .i64 (idxB (fun j => !poss1 (cmp l j) b) l.length)) ∧ Below w.heap.size w w' := by
  have hln := Nat.le_trans h1.le h1.max
  unfold maxLen at hln
  have HL := Lib.hid hl
  have HBO := Lib.hid hb
  have H1 := Lib.hid (fun (W : World) (h : Below w.heap.size w W) => h1.to h h.size)
  have H2 := Lib.hid (fun (W : World) (h : Below w.heap.size w W) => h2.to h h.size)
  have HG := Lib.hid (fun (W : World) (h : Below w.heap.size w W) => (h.cell (p := ⟨gb, 0, none⟩) hg).trans hgc)
  clear hl hb h1 h2 hgc
  go_enter Try.func50, Try.ntmps50
  go_wp2
  go_loopw [8] (fun i wr => ∃ k : Nat, k ≤ l.length ∧ i = .int .i64 k ∧ Below w.heap.size w wr ∧ ∀ j, j < k → poss1 (cmp l j) b = true) (fun i _ => l.length - (intOf i).toNat)
  case atStart => exact ⟨0, by omega, rfl, Below.refl _ _, by omega⟩
  case round =>
    obtain ⟨k, hk, rfl, hbw, hj⟩ := hrel
    have HJ := Lib.hid hj
    have HB := Lib.hid hbw
    clear hj hbw
    by_cases hlt : k < l.length
    · obtain ⟨g, p, a, ca, hA, hbl, ⟨q0, q1, q2⟩, hf⟩ := (H1.out _ HB.out).at_ hlt
      subst hA
      have hE := excluded_any n hn (cmp l k) (HL.out k hlt) a a2 ca c2 b HBO.out gb wr hf (H2.out _ HB.out) (Nat.lt_of_lt_of_le hg HB.out.size) (HG.out _ HB.out)
      clear hf
      cases hi : poss1 (cmp l k) b
      · rw [hi] at hE
        have HE := Lib.hid hE
        have HI := Lib.hid hi
        clear hE
        go_wp2_with (go_at_call 45; (with_reducible refine HE.out.mono ?_); rintro e w2 ⟨rfl, hb2⟩; have HB2 := Lib.hid (HB.out.trans (hb2.mono HB.out.size)); clear hb2)
        go_ret
        exact ⟨ret_int2 (idxB_hit hlt (by rw [HI.out]; rfl) (fun j h => by rw [HJ.out j h]; rfl)).symm, HB2.out⟩
      · rw [hi] at hE
        have HE := Lib.hid hE
        have HI := Lib.hid hi
        clear hE
        go_wp2_with (go_at_call 45; (with_reducible refine HE.out.mono ?_); rintro e w2 ⟨rfl, hb2⟩; have HB2 := Lib.hid (HB.out.trans (hb2.mono HB.out.size)); clear hb2)
        go_roundw
        case rel => exact ⟨k + 1, by omega, by go_num, HB2.out, all_step HJ.out HI.out⟩
        case measure => simp [intOf]; omega
    · have hge : ¬ ((k : Int) < l.length) := by omega
      go_wp2
      go_ret
      exact ⟨ret_int2 (idxB_miss (fun j h => by rw [HJ.out j (by omega)]; rfl)).symm, HB.out⟩
set_option maxHeartbeats 400000 in
theorem containsC_any (n : Nat) (hn : n ≤ 8) (A a2 : Option Addr) (C c2 : Nat) (l : List Cmp) (b : List (Int × Int)) (hl : ∀ k, k < l.length → CmpOk n (cmp l k)) (hb : BOk n b) (gb : Nat) (w : World) (h1 : CmpL w w.heap.size A C l) (h2 : PrL w w.heap.size a2 c2 b)
    (hg : gb < w.heap.size) (hgc : w.cell? ⟨gb, 0, none⟩ = some (.slice a2 b.length c2)) :
    Calls Try.prog 47 #[.slice A l.length C, .func (.func 45) #[] #[.pointer (some ⟨gb, 0, none⟩)]] w fun e w' => e = .returned (.bool ((List.range l.length).any (fun j => !poss1 (cmp l j) b))) ∧ Below w.heap.size w w' := by
  have HR := indexC_any n hn A a2 C c2 l b hl hb gb w h1 h2 hg hgc
  have hI := idxB_has (fun j => !poss1 (cmp l j) b) l.length
  clear hl hb h1 h2 hgc
  go_enter Try.func47, Try.ntmps47
  go_wp2_with (go_at_call 50; refine HR.mono ?_; rintro e w' ⟨rfl, hbw⟩)
  go_ret
  exact ⟨rfl, hbw⟩
theorem poss_any (l : List Cmp) (b : List (Int × Int)) : (!(List.range l.length).any (fun j => !poss1 (cmp l j) b)) = poss l b := by
  cases h : (List.range l.length).any (fun j => !poss1 (cmp l j) b)
  · rw [List.any_eq_false] at h
    exact (poss_good (fun k hk => by simpa using h k (by simpa using hk))).symm
  · rw [List.any_eq_true] at h
    obtain ⟨k, hk, h⟩ := h
    exact (poss_bad (by simpa using hk) (by simpa using h)).symm
set_option maxHeartbeats 1000000 in
theorem mayHold_any (n : Nat) (hn : n ≤ 8) (A a2 : Option Addr) (C c2 : Nat) (l : List Cmp) (b : List (Int × Int)) (hl : ∀ k, k < l.length → CmpOk n (cmp l k)) (hb : BOk n b) (w : World) (h1 : CmpL w w.heap.size A C l) (h2 : PrL w w.heap.size a2 c2 b) :
    Calls Try.prog 32 #[.slice A l.length C, .slice a2 b.length c2] w fun e w' => e = .returned (.bool (poss l b)) ∧ Below w.heap.size w w' := by
  have hb1 : Below w.heap.size w (w.alloc (.cells #[.slice a2 b.length c2] 44)) := by go_grown
  have HR := Lib.hid (containsC_any n hn A a2 C c2 l b hl hb w.heap.size (w.alloc (.cells #[.slice a2 b.length c2] 44)) (h1.to hb1 hb1.size) (h2.to hb1 hb1.size) (by simp) (by simp))
  have HB1 := Lib.hid hb1
  have HP := Lib.hid (poss_any l b)
  clear hl hb h1 h2 hb1
  go_enter Try.func32, Try.ntmps32
  go_wp2_with (go_at_call 47; (with_reducible refine HR.out.mono ?_); rintro e w2 ⟨rfl, hb2⟩)
  go_ret
  exact ⟨ret_val (by rw [← HP.out]; rfl), HB1.out.trans (hb2.mono HB1.out.size)⟩
end Go.Proofs.Ytiafplmaigpmeaa
