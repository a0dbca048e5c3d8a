/- Values that are reached lie within the intervals: pure facts. -/
import Derived.Test.YtiafplmaigpmeaaNl2
namespace Go.Proofs.Ytiafplmaigpmeaa
open Go.RowKit
set_option linter.unusedSimpArgs false
set_option linter.unusedVariables false
set_option maxRecDepth 100000

/-- The values lie within the intervals. -/
structure Inb (v : List Int) (b : List (Int × Int)) : Prop where
  len : v.length = b.length
  lo : ∀ k, k < b.length → (prx b k).1 ≤ ix v k
  hi : ∀ k, k < b.length → ix v k ≤ (prx b k).2
theorem Inb.wid {v : List Int} {b w : List (Int × Int)} (h : Inb v b) (hw : Wid b w) : Inb v w :=
  ⟨h.len.trans hw.len.symm, fun k hk => Int.le_trans (hw.lo k (by rw [← hw.len]; exact hk)) (h.lo k (by rw [← hw.len]; exact hk)), fun k hk => Int.le_trans (h.hi k (by rw [← hw.len]; exact hk)) (hw.hi k (by rw [← hw.len]; exact hk))⟩
theorem prod_in {f lo hi z : Int} (h1 : lo ≤ z) (h2 : z ≤ hi) : min (f * lo) (f * hi) ≤ f * z ∧ f * z ≤ max (f * lo) (f * hi) := by
  rcases Int.le_total 0 f with h | h
  · have a := Int.mul_le_mul_of_nonneg_left h1 h
    have b := Int.mul_le_mul_of_nonneg_left h2 h
    omega
  · have a := Int.mul_le_mul_of_nonpos_left h h1
    have b := Int.mul_le_mul_of_nonpos_left h h2
    omega
theorem smK_in {f v : List Int} {b : List (Int × Int)} (h : Inb v b) : ∀ k, k ≤ b.length → lowK f b k ≤ smK f v k ∧ smK f v k ≤ highK f b k
  | 0, _ => by simp [lowK, smK, highK]
  | k + 1, hk => by
    have ih := smK_in (f := f) h k (by omega)
    have hp := prod_in (f := ix f k) (h.lo k (by omega)) (h.hi k (by omega))
    rw [lowK, smK, highK]
    omega
theorem sm_in {f v : List Int} {b : List (Int × Int)} (h : Inb v b) (hf : f.length ≤ b.length) : lowS f b ≤ sm f v ∧ sm f v ≤ highS f b := smK_in h _ hf
theorem sat_poss {n : Nat} {l : List Cmp} {v : List Int} {b : List (Int × Int)} (h : Inb v b) (hb : b.length = n) (hl : ∀ k, k < l.length → CmpOk n (cmp l k)) (hs : sat l v = true) : poss l b = true := by
  refine poss_good (fun k hk => ?_)
  have h1 : s1 (cmp l k) v = true := by
    unfold sat at hs
    rw [List.all_eq_true] at hs
    exact hs _ (cmp_mem hk)
  have h2 := sm_in (f := (cmp l k).f) h (by rw [(hl k hk).len, hb]; exact Nat.le_refl _)
  unfold s1 at h1
  rw [Bool.and_eq_true, Bool.or_eq_true, decide_eq_true_iff, decide_eq_true_iff, decide_eq_true_iff] at h1
  unfold poss1
  rw [Bool.and_eq_true, Bool.or_eq_true, decide_eq_true_iff, decide_eq_true_iff, decide_eq_true_iff]
  refine ⟨by omega, ?_⟩
  rcases h1.2 with h3 | h3
  · exact .inl h3
  · exact .inr (by omega)
/-- After the changes each new value that is in range lies in its interval. -/
theorem nvK_in {n : Nat} {ch : List Chg} {v : List Int} {b w : List (Int × Int)} (h : Inb v b) (hb : BOk n b) (hw : BOk n w) (hwid : Inb v w) (hc : ∀ k, k < ch.length → ChgOk n (chg ch k)) {x : Nat} (hx : x < n) :
    ∀ j, j ≤ ch.length → -1000000 ≤ nvK ch v x j → nvK ch v x j ≤ 1000000 → (prx (chK b ch w j) x).1 ≤ nvK ch v x j ∧ nvK ch v x j ≤ (prx (chK b ch w j) x).2
  | 0, _, _, _ => ⟨hwid.lo x (by rw [hw.len]; exact hx), hwid.hi x (by rw [hw.len]; exact hx)⟩
  | j + 1, hj, h1, h2 => by
    have hok := hc j (by omega)
    have hwj := chK_ok (b := b) (ch := ch) hw j
    have hv0 := hok.v
    have hm : (chg ch j).v.toNat < (chK b ch w j).length := by rw [hwj.len]; omega
    have hs := sm_in (f := (chg ch j).f) h (by rw [hok.len, hb.len]; exact Nat.le_refl _)
    rw [nvK] at h1 h2 ⊢
    show (prx (updC b (chK b ch w j) (chg ch j)) x).1 ≤ _ ∧ _ ≤ (prx (updC b (chK b ch w j) (chg ch j)) x).2
    unfold updC
    rw [prx_set hm]
    by_cases e : (chg ch j).v = x
    · rw [if_pos e] at h1 h2
      rw [if_pos e, if_pos (by omega)]
      unfold up1
      simp only
      omega
    · rw [if_neg e] at h1 h2
      rw [if_neg e, if_neg (by omega)]
      exact nvK_in h hb hw hwid hc hx j (by omega) h1 h2
theorem ix_nvL {ch : List Chg} {v : List Int} {x : Nat} (hx : x < v.length) : ix (nvL ch v) x = nvK ch v x ch.length := by simp [nvL, ix, List.getD, hx]
/-- An operator leads into the next intervals. -/
theorem naf_in {x : NT} (hv : NVal x) {s m : Nat} {v : List Int} (hm : m < x.ops.length) (h : Inb v (bdn x s)) (h0 : (naf (nop x.ops m) v).2 = 0) : Inb (naf (nop x.ops m) v).1 (bdn x (s + 1)) := by
  have hb := bdn_ok hv s
  have hok := hv.ops m hm
  have hsat : sat (nop x.ops m).pre v = true := by
    cases hs : sat (nop x.ops m).pre v
    · unfold naf at h0; rw [if_pos hs] at h0; cases h0
    · rfl
  have hvo := naf_vok h0
  have hl : (naf (nop x.ops m) v).1 = nvL (nop x.ops m).ch v := by
    unfold naf at h0 ⊢
    rw [if_neg (by simp [hsat])] at h0 ⊢
    split
    · rename_i h1; rw [if_pos h1] at h0; cases h0
    · rfl
  have hp := sat_poss h hb.len hok.pre.2 hsat
  have hvl : v.length = x.init.length := h.len.trans hb.len
  have hlen : (bdn x (s + 1)).length = x.init.length := (bdn_ok hv (s + 1)).len
  have hwm := opK_ok (x := x) hb m
  have hstep : opK x (bdn x s) (m + 1) = chK (bdn x s) (nop x.ops m).ch (opK x (bdn x s) m) (nop x.ops m).ch.length := by rw [opK, if_pos hp]
  have hwid2 : Wid (opK x (bdn x s) (m + 1)) (bdn x (s + 1)) := by
    have key : ∀ d, Wid (opK x (bdn x s) (m + 1)) (opK x (bdn x s) (m + 1 + d)) := by
      intro d
      induction d with
      | zero => exact Wid.refl _
      | succ d ih =>
        refine ih.trans ?_
        show Wid _ (opK x (bdn x s) (m + 1 + d + 1))
        rw [opK]
        split
        · exact chK_wid (opK_ok hb _) _
        · exact Wid.refl _
    have := key (x.ops.length - (m + 1))
    rw [show m + 1 + (x.ops.length - (m + 1)) = x.ops.length by omega] at this
    exact this
  refine Inb.wid ?_ hwid2
  have key : ∀ k, k < x.init.length → (prx (opK x (bdn x s) (m + 1)) k).1 ≤ ix (naf (nop x.ops m) v).1 k ∧ ix (naf (nop x.ops m) v).1 k ≤ (prx (opK x (bdn x s) (m + 1)) k).2 := by
    intro k hk
    have hb9 := hvo.b k (by rw [hvo.len]; omega)
    rw [hl, ix_nvL (by omega)] at hb9 ⊢
    rw [hstep]
    exact nvK_in h hb hwm (h.wid (opK_wid hb m)) hok.ch hk _ (Nat.le_refl _) hb9.1 hb9.2
  have hl1 : (opK x (bdn x s) (m + 1)).length = x.init.length := (opK_ok (x := x) hb (m + 1)).len
  exact ⟨by rw [hvo.len, hl1]; exact hvl, fun k hk => (key k (by omega)).1, fun k hk => (key k (by omega)).2⟩
theorem inb_mono {x : NT} (hv : NVal x) {v : List Int} {s : Nat} (h : Inb v (bdn x s)) : ∀ d, Inb v (bdn x (s + d))
  | 0 => h
  | d + 1 => (inb_mono hv h d).wid (bdn_wid hv (s + d))
theorem inb_init {x : NT} (hv : NVal x) : Inb x.init (bdn x 0) :=
  ⟨(bdn_ok hv 0).len.symm, fun k hk => (bdn_init hv 0 k (by rw [← (bdn_ok hv 0).len]; exact hk)).1, fun k hk => (bdn_init hv 0 k (by rw [← (bdn_ok hv 0).len]; exact hk)).2⟩
end Go.Proofs.Ytiafplmaigpmeaa
