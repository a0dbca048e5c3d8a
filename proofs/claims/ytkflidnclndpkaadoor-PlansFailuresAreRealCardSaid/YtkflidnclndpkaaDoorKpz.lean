/- Facts on what Play answers. -/
import Derived.Test.YtkflidnclndpkaaDoorKfr
namespace Go.Proofs.YtkflidnclndpkaaDoor
open Go.RowKit
set_option linter.unusedSimpArgs false
set_option linter.unusedVariables false
set_option maxRecDepth 100000

theorem seqN_at {x : Tsk} {n : Nat} {s plan : List Int} : ∀ (f i : Nat) (j : Nat) (t : List Int), j < f → runTo x n s plan (i + j) = some t → rw_ ((seqN x n s plan f i).map (·.2)) j = t
  | 0, _, _, _, h, _ => by omega
  | f + 1, i, j, t, h, hr => by
    cases h0 : runTo x n s plan i with
    | none => rw [runTo_none h0 _ (by omega)] at hr; cases hr
    | some u =>
      rw [seqN_some h0]
      match j with
      | 0 => rw [Nat.add_zero, h0] at hr; cases hr; rfl
      | j + 1 =>
        have := seqN_at (x := x) (s := s) (plan := plan) f (i + 1) j t (by omega) (by rw [show i + 1 + j = i + (j + 1) by omega]; exact hr)
        rw [← this]
        simp [rw_, List.getD]
theorem runTo_le {x : Tsk} {n : Nat} {s plan t : List Int} {m : Nat} (h : runTo x n s plan m = some t) {k : Nat} (hk : k ≤ m) : ∃ u, runTo x n s plan k = some u := by
  cases h0 : runTo x n s plan k with
  | none => rw [runTo_none h0 _ hk] at h; cases h
  | some u => exact ⟨u, rfl⟩
theorem plyF_zero {x : Tsk} {s plan : List Int} (h : (plyF x s plan).1 = 0) : plyF x s plan = (0, 0) ∧ (ckF x s plan).1 = 0 ∧ ∃ t, runTo x x.n.toNat s plan plan.length = some t := by
  unfold plyF at *
  by_cases hc : (ckF x s plan).1 = 0
  · rw [if_neg (by simpa using hc)] at h ⊢
    cases hr : runTo x x.n.toNat s plan plan.length with
    | none => rw [hr] at h; simp at h
    | some t => exact ⟨by simp, hc, t, rfl⟩
  · rw [if_pos hc] at h
    exact absurd h hc
theorem plyF_good {x : Tsk} {s plan t : List Int} (hc : (ckF x s plan).1 = 0) (hr : runTo x x.n.toNat s plan plan.length = some t) : plyF x s plan = (0, 0) := by
  unfold plyF
  rw [if_neg (by simpa using hc), hr]; rfl
theorem plyL_bad {x : Tsk} {s plan : List Int} (h : (plyF x s plan).1 ≠ 0) : plyL x s plan = [] := by
  unfold plyL
  rw [if_neg h]
theorem plyL_len {x : Tsk} {s plan : List Int} (h : (plyF x s plan).1 = 0) : (plyL x s plan).length = plan.length + 1 := by
  obtain ⟨_, _, t, ht⟩ := plyF_zero h
  unfold plyL
  rw [if_pos h, List.length_map]
  exact seqN_full (t := t) plan.length 0 (by simpa using ht)
theorem plyL_at {x : Tsk} {s plan : List Int} (h : (plyF x s plan).1 = 0) {k : Nat} (hk : k ≤ plan.length) : runTo x x.n.toNat s plan k = some (rw_ (plyL x s plan) k) := by
  obtain ⟨_, _, t, ht⟩ := plyF_zero h
  obtain ⟨u, hu⟩ := runTo_le ht hk
  unfold plyL
  rw [if_pos h, hu]
  unfold seqL
  rw [seqN_at (x := x) (s := s) (plan := plan) (plan.length + 1) 0 k u (by omega) (by simpa using hu)]

/-- Without deletions, more facts keep what a plan reaches. -/
theorem runTo_more {x : Tsk} {n : Nat} (hv : Val x n) (hdel : ∀ k, k < x.ops.length → (opr x.ops k).del = []) {s more plan : List Int} (hs : IsS s n) (hm : IsS more n) (hsub : subB s more = true) (hp : planB x.ops.length plan = true) :
    ∀ (k : Nat) (t : List Int), k ≤ plan.length → runTo x n s plan k = some t → ∃ u, runTo x n more plan k = some u ∧ subB t u = true
  | 0, t, _, h => by
    have e : s = t := by simpa [runTo] using h
    subst e
    exact ⟨more, rfl, hsub⟩
  | k + 1, t, hk, h => by
    obtain ⟨t0, ht0⟩ := runTo_le h (k := k) (by omega)
    obtain ⟨u0, hu0, hsub0⟩ := runTo_more hv hdel hs hm hsub hp k t0 (by omega) ht0
    obtain ⟨p0, p1⟩ := planB_at hp (k := k) (by omega)
    have hd : (opn x (ix plan k)).del = [] := hdel _ (by omega)
    have ho := (op_val hv p0 p1).1
    rw [runTo_step ht0] at h
    rw [runTo_step hu0]
    have ht0S := runTo_isS hs k t0 ht0
    have hu0S := runTo_isS hm k u0 hu0
    rw [subB_iff] at hsub0
    cases hpre : subB (opn x (ix plan k)).pre t0
    · rw [hpre] at h; simp at h
    · rw [hpre, if_pos rfl] at h
      cases h
      have : subB (opn x (ix plan k)).pre u0 = true := by
        rw [subB_iff] at hpre ⊢
        exact fun y hy => hsub0 y (hpre y hy)
      rw [this, if_pos rfl]
      refine ⟨_, rfl, ?_⟩
      rw [subB_iff]
      intro y hy
      rw [mem_aftL ho.add ht0S] at hy
      rw [mem_aftL ho.add hu0S, hd]
      rcases hy with hy | ⟨hy, _⟩
      · exact .inl hy
      · exact .inr ⟨hsub0 y hy, by simp⟩
theorem ck_split {x : Tsk} {s plan : List Int} (h : (stF x s).1 = 0) (h60 : plan.length ≤ 60) (hp : planB x.ops.length plan = true) : (ckF x s plan).1 = 0 := by
  unfold ckF spF
  rw [if_neg (by simpa using h), if_neg (by omega), if_pos hp]
theorem more_ok {x : Tsk} {s more plan : List Int} (hdel : ∀ k, k < x.ops.length → (opr x.ops k).del = []) (h : (plyF x s plan).1 = 0) (hm : (stF x more).1 = 0) (hsub : subB s more = true) :
    plyF x more plan = (0, 0) ∧ (plyL x more plan).length = plan.length + 1 ∧ subB (rw_ (plyL x s plan) plan.length) (rw_ (plyL x more plan) plan.length) = true := by
  obtain ⟨_, hc, _⟩ := plyF_zero h
  obtain ⟨hv, hs, h60, hp⟩ := ck_val hc
  have hmS := (stF_val hm).2
  obtain ⟨u, hu, hsu⟩ := runTo_more hv hdel hs hmS hsub hp plan.length _ (Nat.le_refl _) (plyL_at h (Nat.le_refl _))
  have hg := plyF_good (ck_split hm h60 hp) hu
  have hg0 : (plyF x more plan).1 = 0 := by rw [hg]
  have := plyL_at hg0 (Nat.le_refl plan.length)
  rw [hu] at this
  cases this
  exact ⟨hg, plyL_len hg0, hsu⟩
end Go.Proofs.YtkflidnclndpkaaDoor
