/- Strips of a multi-valued task has the same plans: pure facts. -/
import Derived.Test.YtenmegkokclolaaDoorMpu
import Derived.Test.YtenmegkokclolaaDoorMzh
namespace Go.Proofs.YtenmegkokclolaaDoor
open Go.RowKit
set_option linter.unusedSimpArgs false
set_option linter.unusedVariables false
set_option maxRecDepth 100000

/-- The facts of a state. -/
def enc (S s : List Int) : List Int := inN S s S.length
theorem holdB_iff {s : List Int} {l : List Asg} : holdB s l = true ↔ ∀ k, k < l.length → ix s (vr l k) = (asg l k).x := by
  unfold holdB; rw [allB_iff]; exact forall_congr' fun k => forall_congr' fun _ => decide_eq_true_iff
theorem sub_enc {S s : List Int} (hz : SzOk S) (hs : msB S s = true) {l : List Asg} (h : AsOk S l) : subB (gvL S l) (enc S s) = holdB s l := by
  rw [Bool.eq_iff_iff, subB_iff, holdB_iff]
  constructor
  · intro hh k hk
    exact (in_at hz hs (h.lt k hk) (as_x h hk)).1 (hh _ (mem_gv.2 ⟨k, hk, rfl⟩))
  · intro hh y hy
    obtain ⟨k, hk, rfl⟩ := mem_gv.1 hy
    exact (in_at hz hs (h.lt k hk) (as_x h hk)).2 (hh k hk)
theorem aftN_ix {S s : List Int} {l : List Asg} (h : AsOk S l) (hs : s.length = S.length) (v : Nat) : ∀ n, n ≤ l.length →
    (∃ k, k < n ∧ vr l k = v ∧ ix (aftN s l n) v = (asg l k).x) ∨ ((∀ k, k < n → vr l k ≠ v) ∧ ix (aftN s l n) v = ix s v)
  | 0, _ => .inr ⟨fun k hk => by omega, rfl⟩
  | n + 1, hn => by
    have hlt := h.lt n (by omega)
    have hl := aftN_len s l n (by omega)
    rw [aftN_succ (by omega), ix_set (by omega)]
    by_cases e : v = vr l n
    · rw [if_pos e]
      exact .inl ⟨n, by omega, e.symm, rfl⟩
    · rw [if_neg e]
      rcases aftN_ix h hs v n (by omega) with ⟨k, hk, e1, e2⟩ | ⟨h1, h2⟩
      · exact .inl ⟨k, by omega, e1, e2⟩
      · refine .inr ⟨fun k hk => ?_, h2⟩
        by_cases e3 : k = n
        · subst e3; exact fun h => e h.symm
        · exact h1 k (by omega)
theorem aft_enc {S s : List Int} {n : Nat} (hn : (n : Int) = smN S S.length) (hz : SzOk S) (hs : msB S s = true) {l : List Asg} (h : AsOk S l) : aftL n (gvL S l) (otL S l) (enc S s) = enc S (aft s l) := by
  have ha := isS_gv hz h
  have he : IsS (enc S s) (smN S S.length) := isS_in hz hs
  have he2 : IsS (enc S (aft s l)) (smN S S.length) := isS_in hz (ms_aft h hs)
  rw [← hn] at ha he
  have hb : ∀ v, v < S.length → 0 ≤ ix s v ∧ ix s v < ix S v := fun v hv => by have := ms_at hs (k := v) (by rw [ms_len hs]; exact hv); omega
  refine sorted_ext (facs_sorted _ _) he2.1 fun y => ?_
  show y ∈ aftL n (gvL S l) (otL S l) (enc S s) ↔ _
  rw [mem_aftL ha he]
  constructor
  · rintro (hy | ⟨hy, hno⟩)
    · obtain ⟨k, hk, rfl⟩ := mem_gv.1 hy
      refine (in_at hz (ms_aft h hs) (h.lt k hk) (as_x h hk)).2 ?_
      rcases aftN_ix h (ms_len hs) (vr l k) l.length (Nat.le_refl _) with ⟨j, hj, e1, e2⟩ | ⟨h1, _⟩
      · obtain rfl := vr_inj h hj hk e1
        exact e2
      · exact absurd rfl (h1 k hk)
    · obtain ⟨v, hv, rfl⟩ := mem_in.1 hy
      refine (in_at hz (ms_aft h hs) hv (hb v hv)).2 ?_
      rcases aftN_ix h (ms_len hs) v l.length (Nat.le_refl _) with ⟨j, hj, e1, e2⟩ | ⟨_, h2⟩
      · rw [ot_at hz h hv (hb v hv)] at hno
        have : (asg l j).x = ix s v := Classical.byContradiction fun hne => hno ⟨j, hj, e1, hne⟩
        unfold aft
        rw [e2, this]
      · exact h2
  · intro hy
    obtain ⟨v, hv, rfl⟩ := mem_in.1 hy
    rcases aftN_ix h (ms_len hs) v l.length (Nat.le_refl _) with ⟨j, hj, e1, e2⟩ | ⟨h1, h2⟩
    · left
      refine mem_gv.2 ⟨j, hj, ?_⟩
      subst e1
      unfold aft
      rw [e2]
    · right
      have e9 : ix (aft s l) v = ix s v := h2
      rw [e9]
      refine ⟨mem_in.2 ⟨v, hv, rfl⟩, ?_⟩
      rw [ot_at hz h hv (hb v hv)]
      rintro ⟨k, hk, e1, _⟩
      exact h1 k hk e1
/-- The task that Strips leaves. -/
structure IsSt (x : MT) (y : Tsk) : Prop where
  n : y.n = smN x.sizes x.sizes.length
  init : y.init = inN x.sizes x.init x.sizes.length
  goal : y.goal = gvL x.sizes x.goal
  ops : y.ops = x.ops.map (opS x.sizes)
section
variable {x : MT} {y : Tsk} {plan : List Int}
theorem st_opn (h : IsSt x y) {i : Int} (h0 : 0 ≤ i) (h1 : i < x.ops.length) : opn y i = opS x.sizes (mop x.ops i.toNat) := by
  have hk : i.toNat < x.ops.length := by omega
  unfold opn
  rw [h.ops]
  simp [opr, mop, List.getD, hk]
theorem st_run (hv : MVal x) (h : IsSt x y) (hp : planB x.ops.length plan = true) : ∀ k, k ≤ plan.length →
    runTo y y.n.toNat y.init plan k = (mrun x.ops plan x.init k).map (enc x.sizes) ∧ ∀ t, mrun x.ops plan x.init k = some t → msB x.sizes t = true
  | 0, _ => by
    refine ⟨by rw [h.init]; rfl, fun t ht => ?_⟩
    simp only [mrun] at ht
    cases ht
    exact hv.init
  | k + 1, hk => by
    obtain ⟨ih, im⟩ := st_run hv h hp k (by omega)
    have hpk := planB_at hp (k := k) (by omega)
    have hn0 := (smN_le hv.sz _ (Nat.le_refl _)).1
    have hn : ((y.n.toNat : Nat) : Int) = smN x.sizes x.sizes.length := by rw [h.n]; omega
    have hlt : (ix plan k).toNat < x.ops.length := by omega
    simp only [runTo, mrun, ih]
    cases hm : mrun x.ops plan x.init k with
    | none => exact ⟨rfl, fun t ht => by cases ht⟩
    | some t =>
      have ht := im t hm
      simp only [Option.map_some]
      rw [st_opn h hpk.1 hpk.2]
      have e1 : subB (opS x.sizes (mop x.ops (ix plan k).toNat)).pre (enc x.sizes t) = holdB t (mop x.ops (ix plan k).toNat).pre := sub_enc hv.sz ht (hv.pre _ hlt)
      have e2 : aftL y.n.toNat (opS x.sizes (mop x.ops (ix plan k).toNat)).add (opS x.sizes (mop x.ops (ix plan k).toNat)).del (enc x.sizes t) = enc x.sizes (aft t (mop x.ops (ix plan k).toNat).post) := aft_enc hn hv.sz ht (hv.post _ hlt)
      rw [e1, e2]
      cases holdB t (mop x.ops (ix plan k).toNat).pre
      · exact ⟨rfl, fun t ht => by cases ht⟩
      · refine ⟨rfl, fun u hu => ?_⟩
        rw [if_pos rfl] at hu
        cases hu
        exact ms_aft (hv.post _ hlt) ht
theorem st_cost (h : IsSt x y) (hp : planB x.ops.length plan = true) : ∀ k, k ≤ plan.length → costTo y plan k = mcost x.ops plan k
  | 0, _ => rfl
  | k + 1, hk => by
    have hpk := planB_at hp (k := k) (by omega)
    simp only [costTo, mcost]
    rw [st_cost h hp k (by omega), st_opn h hpk.1 hpk.2]
    rfl
theorem st_ops (h : IsSt x y) : y.ops.length = x.ops.length := by rw [h.ops, List.length_map]
theorem st_pl (hv : MVal x) (hm : (mfF x).1 = 0) (h24 : smN x.sizes x.sizes.length ≤ 24) (h : IsSt x y) : plF y plan = ckM x x.init plan := by
  unfold plF ckM
  rw [strips_valid hv h24 h.n h.init h.goal h.ops, if_neg (by simp), if_neg (by simp [hm]), if_neg (by simp [hv.init]), st_ops h]
theorem st_sv (hv : MVal x) (hm : (mfF x).1 = 0) (h24 : smN x.sizes x.sizes.length ≤ 24) (h : IsSt x y) : svB y plan = slB x plan := by
  unfold svB slB
  rw [st_pl hv hm h24 h]
  by_cases h0 : (ckM x x.init plan).1 = 0
  · rw [if_pos h0, decide_eq_true h0, Bool.true_and]
    obtain ⟨_, _, hp, _, _⟩ := ck_ok h0
    obtain ⟨h1, h2⟩ := st_run hv h hp plan.length (Nat.le_refl _)
    unfold solB msol
    rw [h1]
    cases hm : mrun x.ops plan x.init plan.length with
    | none => rfl
    | some t =>
      simp only [Option.map_some]
      rw [h.goal]
      exact sub_enc hv.sz (h2 t hm) hv.goal
  · rw [if_neg h0, decide_eq_false h0]; rfl
theorem st_co (hv : MVal x) (hm : (mfF x).1 = 0) (h24 : smN x.sizes x.sizes.length ≤ 24) (h : IsSt x y) : coM y plan = coN x plan := by
  unfold coM coN
  rw [st_pl hv hm h24 h]
  by_cases h0 : (ckM x x.init plan).1 = 0
  · rw [if_pos h0, if_pos h0]
    obtain ⟨_, _, hp, _, _⟩ := ck_ok h0
    exact st_cost h hp plan.length (Nat.le_refl _)
  · rw [if_neg h0, if_neg h0]
end
theorem ms_of {x : MT} (h : (msF x).1 = 0) : (mfF x).1 = 0 ∧ smN x.sizes x.sizes.length ≤ 24 ∧ msF x = (0, 0) := by
  unfold msF at h ⊢
  by_cases h1 : (mfF x).1 = 0
  · rw [if_neg (by simp [h1])] at h ⊢
    split at h
    · cases h
    · rename_i h2
      rw [if_neg h2]
      exact ⟨h1, by omega, rfl⟩
  · rw [if_pos h1] at h; exact absurd h h1
end Go.Proofs.YtenmegkokclolaaDoor
